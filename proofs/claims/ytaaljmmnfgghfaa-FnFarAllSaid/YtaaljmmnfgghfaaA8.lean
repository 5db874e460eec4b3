/- Drawing recodings. Drawing people, ladders and recodings. Drawing people, a ladder and a recoding. Drawing people, a ladder, a recoding and an index. Drawing people, a ladder, a recoding and an index. Drawing a ladder and recodings. -/
import Derived.Test.YtaaljmmnfgghfaaA5
import Derived.Test.YtaaljmmnfgghfaaA7
import Derived.Test.YtaaljmmnfgghfaaA4
import Derived.Test.YtaaljmmnfgghfaaA6
namespace Go.Proofs.Ytaaljmmnfgghfaa
open Go.RowKit
def RcIn (n : Nat) (r : Rc) : Prop := -1 ≤ r.area ∧ r.area ≤ n + 1 ∧ 0 ≤ r.job ∧ r.job ≤ 2 ∧ 0 ≤ r.sex ∧ r.sex ≤ 1
def RcDrawn (n R q : Nat) (w : World) (e : Ending) (w' : World) : Prop := ∃ r : Rc, e = .returned r.val ∧ RcIn n r ∧ RdN w' R (q + 5) ∧ w.grownBy w' (some R)
theorem blk3 {w : World} {g : Nat} {t : TypeId} {a b c : Value} (h : w.heap[g]? = some (.cells #[a, b, c] t (0, 0))) :
    w.cell? ⟨g, 0, none⟩ = some a ∧ w.cell? ⟨g, 1, none⟩ = some b ∧ w.cell? ⟨g, 2, none⟩ = some c ∧ w.frozen? ⟨g, 0, none⟩ = false ∧ w.frozen? ⟨g, 1, none⟩ = false ∧ w.frozen? ⟨g, 2, none⟩ = false :=
  ⟨cell_of_row w g 0 _ _ _ h, cell_of_row w g 1 _ _ _ h, cell_of_row w g 2 _ _ _ h, frozen_of_row w g 0 _ _ h, frozen_of_row w g 1 _ _ h, frozen_of_row w g 2 _ _ h⟩
theorem grown_blk {w w' : World} {R g : Nat} {o : Obj} (hg : w.grownBy w' (some R)) (h : w.heap[g]? = some o) (hne : g ≠ R) : w'.heap[g]? = some o :=
  (hg.block g (Array.getElem?_eq_some_iff.1 h).1 (fun e => by injection e; omega)).trans h
def RcMid (n R q : Nat) (r : Rc) (w w' : World) : Prop := RdN w' R (q + 5) ∧ w.grownBy w' (some R) ∧ RcIn n r
theorem rcEnd1 {n R q Q : Nat} {r : Rc} {w w4 : World} (hr : RdN w4 R (q + 5)) (hg : w.grownBy w4 (some R)) (hi : RcIn n r) (hQ : R < Q) (hwQ : w.heap.size ≤ Q) (o : Nat) (v : Value) : RcMid n R q r w (w4.setCell ⟨Q, o, none⟩ v) :=
  ⟨hr.setCell (a := ⟨Q, o, none⟩) hQ v, grown_set hg (p := ⟨Q, o, none⟩) (.inr hwQ) v, hi⟩
theorem rcEnd3 {n R q G : Nat} {r : Rc} {w w4 : World} (h : RcMid n R q r w w4) (hG : R < G) (hwG : w.heap.size ≤ G) :
    RcDrawn n R q w (.returned r.val) (((w4.setCell ⟨G, 0, none⟩ (.int .i64 r.area)).setCell ⟨G, 1, none⟩ (.int .i64 r.job)).setCell ⟨G, 2, none⟩ (.int .i64 r.sex)) :=
  ⟨r, rfl, h.2.2, ((h.1.setCell (a := ⟨G, 0, none⟩) hG _).setCell (a := ⟨G, 1, none⟩) hG _).setCell (a := ⟨G, 2, none⟩) hG _,
    grown_set (grown_set (grown_set h.2.1 (p := ⟨G, 0, none⟩) (.inr hwG) _) (p := ⟨G, 1, none⟩) (.inr hwG) _) (p := ⟨G, 2, none⟩) (.inr hwG) _⟩
set_option maxHeartbeats 1000000 in
theorem recode_any (R q : Nat) (hq : q + 5 < 1000000) (A : Option Addr) (n c : Nat) (hn : n ≤ 100) (w : World) (hr : RdN w R q) :
    Calls Try.prog 55 #[.pointer (some ⟨R, 0, none⟩), .slice A n c] w (RcDrawn n R q w) := by
  have hR := hr.lt
  go_enter Try.func55, Try.ntmps55
  go_wp2_with fail
  refine (pick_any (n + 1) (by omega) (by omega) R q (by omega) _ (hr.alloc _)).mono ?_
  rintro e w1 ⟨a, rfl, a0, a1, hr1, hg1⟩
  go_wp2_with fail
  refine (pick_any 2 (by omega) (by omega) R _ (by omega) _ hr1).mono ?_
  rintro e w2 ⟨j, rfl, j0, j1, hr2, hg2⟩
  go_wp2_with fail
  refine (pick_any 2 (by omega) (by omega) R _ (by omega) _ hr2).mono ?_
  rintro e w3 ⟨s, rfl, s0, s1, hr3, hg3⟩
  have hG0 := grown_blk hg3 (grown_blk hg2 (grown_blk hg1 (heap_alloc_new w _) (by omega)) (by omega)) (by omega)
  have hg := grown_trans (World.grownBy_alloc w (.cells #[.int .i64 0, .int .i64 0, .int .i64 0] TRc) (some R)) (grown_trans (grown_trans hg1 hg2) hg3)
  have hz3 : w.heap.size < w3.heap.size := (Array.getElem?_eq_some_iff.1 hG0).1
  have HG := Lib.hid hg
  have HG0 := Lib.hid hG0
  clear hg hG0 hg1 hg2 hg3 hr1 hr2 hr
  go_wp2_with fail
  refine (pick_any 50 (by omega) (by omega) R _ (by omega) _ (hr3.alloc _)).mono ?_
  rintro e w4 ⟨x, rfl, x0, x1, hr4, hg4⟩
  have HQ4 := Lib.hid (grown_blk hg4 (heap_alloc_new w3 _) (by omega))
  have HG4 := Lib.hid (grown_blk hg4 (keep1 HG0.out) (by omega))
  have HGW := Lib.hid (grown_trans (grown_alloc HG.out _) hg4)
  have hQz : w3.heap.size < w4.heap.size := (Array.getElem?_eq_some_iff.1 HQ4.out).1
  obtain ⟨Q, hQ⟩ : ∃ Q, w3.heap.size = Q := ⟨_, rfl⟩
  obtain ⟨G, hG⟩ : ∃ G, w.heap.size = G := ⟨_, rfl⟩
  rw [hQ] at HQ4 hQz hz3 ⊢
  rw [hG] at HG4 hz3 hR ⊢
  have HGW2 := Lib.hid hG
  clear hQ hG HG HG0 hg4 hr3
  have hRQ : R < Q := by omega
  rcases (show x = 0 ∨ x = 1 ∨ 1 < x by omega) with rfl | rfl | hx
  · go_wp2_with fail
    refine (pick_any 2 (by omega) (by omega) R _ (by omega) _ (hr4.alloc _)).mono ?_
    rintro e w5 ⟨u, rfl, u0, u1, hr5, hg5⟩
    obtain ⟨u, rfl⟩ := Int.eq_ofNat_of_zero_le u0
    obtain ⟨t, ht, ht2⟩ := two_cell (new_block hg5 (by omega)) u (by omega)
    have HQ5 := Lib.hid (grown_blk hg5 (keep1 HQ4.out) (by omega))
    have HG5 := Lib.hid (grown_blk hg5 (keep1 HG4.out) (by omega))
    have HGW5 := Lib.hid (grown_trans (grown_alloc HGW.out _) hg5)
    obtain ⟨c0, c1, c2, f0, f1, f2⟩ := blk3 HQ5.out
    obtain ⟨d0, d1, d2, e0, e1, e2⟩ := blk3 HG5.out
    clear hg5 hr4 HQ4 HG4 HGW
    go_wp2
    refine bodyPost_ret (v := Rc.val ⟨t, j, s⟩) (by simp [results, Try.results55, go_sem, d0, d1, d2]) rfl ?_
    exact rcEnd3 (rcEnd1 (r := ⟨t, j, s⟩) hr5 HGW5.out (by unfold RcIn; simp only; omega) hRQ (by rw [HGW2.out]; omega) 0 (.int .i64 t)) (by omega) (by rw [HGW2.out]; exact Nat.le_refl _)
  · obtain ⟨c0, c1, c2, f0, f1, f2⟩ := blk3 HQ4.out
    obtain ⟨d0, d1, d2, e0, e1, e2⟩ := blk3 HG4.out
    go_wp2
    refine bodyPost_ret (v := Rc.val ⟨a, 2, s⟩) (by simp [results, Try.results55, go_sem, d0, d1, d2]) rfl ?_
    exact rcEnd3 (rcEnd1 (r := ⟨a, 2, s⟩) (hr4.more (by omega)) HGW.out (by unfold RcIn; simp only; omega) hRQ (by rw [HGW2.out]; omega) 1 (.int .i64 2)) (by omega) (by rw [HGW2.out]; exact Nat.le_refl _)
  · obtain ⟨c0, c1, c2, f0, f1, f2⟩ := blk3 HQ4.out
    obtain ⟨d0, d1, d2, e0, e1, e2⟩ := blk3 HG4.out
    go_wp2
    refine bodyPost_ret (v := Rc.val ⟨a, j, s⟩) (by simp [results, Try.results55, go_sem, d0, d1, d2]) rfl ?_
    exact rcEnd3 (w4 := w4) ⟨(hr4.more (by omega)), HGW.out, by unfold RcIn; simp only; omega⟩ (by omega) (by rw [HGW2.out]; exact Nat.le_refl _)
end Go.Proofs.Ytaaljmmnfgghfaa
namespace Go.Proofs.Ytaaljmmnfgghfaa
open Go.RowKit
/-- People, a ladder and a recoding, made anew. -/
def AllDrawn (R q : Nat) (w : World) (e : Ending) (w' : World) : Prop :=
  ∃ l v ll u r, e = .returned (.tuple #[v, u, Rc.val r]) ∧ Own w' w.heap.size v l ∧ OwnLL w' w.heap.size w.heap.size u ll ∧ l.length ≤ 10 ∧ ll.length ≤ 4 ∧ (∀ p ∈ l, Bd p) ∧ RcIn ll.length r ∧ RdN w' R (q + 200) ∧ w.grownBy w' (some R)
theorem OwnLL.krr {w w' : World} {B L R : Nat} {v : Value} {ll : List (List Int)} (h : OwnLL w B L v ll) (hg : w.grownBy w' (some R)) (hB : R < B) (hL : R < L) : OwnLL w' B L v ll :=
  h.kept hg (fun k hk => by injection hk; omega) (fun k hk => by injection hk; omega)
theorem OwnLL.far {w : World} {B L Q : Nat} {v : Value} {ll : List (List Int)} (h : OwnLL w B L v ll) (hB : Q < B) (hL : Q < L) (o : Nat) (x : Value) : OwnLL (w.setCell ⟨Q, o, none⟩ x) B L v ll := by
  obtain ⟨hs, h1, h2⟩ := h
  refine ⟨hs, ?_, h2.keep (by simp [World.setCell]) fun b hb _ hne => ⟨Below.heap_setCell w ⟨Q, o, none⟩ x b (by show b ≠ Q; omega), hne⟩⟩
  have hob := h1.ob
  obtain ⟨a1, a2⟩ := h1
  refine ⟨a1, ?_⟩
  rcases a2 with a2 | ⟨g, cap, cur, rfl, hg, hh, r⟩
  · exact .inl a2
  · exact .inr ⟨g, cap, cur, rfl, hg, (Below.heap_setCell w ⟨Q, o, none⟩ x g (by show g ≠ Q; omega)).trans hh, r⟩
set_option maxHeartbeats 1000000 in
theorem all_any (R q : Nat) (hq : q + 200 < 1000000) (w : World) (hr : RdN w R q) :
    Calls Try.prog 39 #[.pointer (some ⟨R, 0, none⟩)] w (AllDrawn R q w) := by
  have hR := hr.lt
  go_enter Try.func39, Try.ntmps39
  go_wp2_with fail
  refine (people_any 10 (by omega) R q (by omega) _ (hr.alloc _)).mono ?_
  rintro e w1 ⟨l, v, rfl, ho1, hl, hbd, hr1, hg1⟩
  have hR1 := hr1.lt
  have hz1 : w.heap.size < w1.heap.size := by have := hg1.size; simp at this; omega
  go_wp2_with fail
  refine (ladder_any R _ (by omega) _ hr1).mono ?_
  rintro e w2 ⟨u, ll, rfl, ho2, hll, hr2, hg2⟩
  obtain ⟨Al, cl, hv, hc1, hc2, _⟩ := ho2.form
  subst hv
  go_wp2_with fail
  refine (recode_any R _ (by omega) Al ll.length cl (by omega) _ hr2).mono ?_
  rintro e w3 ⟨r, rfl, hri, hr3, hg3⟩
  have hp : Own w3 (w.heap.size + 1) v l := by
    have h := (Own.kept (Own.kept ho1 hg2 (by simp; omega)) hg3 (by simp; omega))
    have e : (w.alloc (.cells #[.int .i64 0, .int .i64 0, .int .i64 0] TRc)).heap.size = w.heap.size + 1 := by simp
    rw [e] at h; exact h
  have hl3 := ho2.krr hg3 (by omega) (by omega)
  have hG0 := grown_blk hg3 (grown_blk hg2 (grown_blk hg1 (heap_alloc_new w _) (by omega)) (by omega)) (by omega)
  have HGW := Lib.hid (grown_trans (World.grownBy_alloc w (.cells #[.int .i64 0, .int .i64 0, .int .i64 0] TRc) (some R)) (grown_trans (grown_trans hg1 hg2) hg3))
  have HP := Lib.hid hp
  have HL := Lib.hid hl3
  have HBD := Lib.hid hbd
  have HRI := Lib.hid hri
  have HR3 := Lib.hid hr3
  obtain ⟨c0, c1, c2, f0, f1, f2⟩ := blk3 hG0
  have hGz : w.heap.size < w3.heap.size := (Array.getElem?_eq_some_iff.1 hG0).1
  clear hp hl3 hG0 hg1 hg2 hg3 hbd hri hr1 hr2 hr3 ho1 ho2 hr
  obtain ⟨ra, rj, rs⟩ := r
  go_wp2
  refine bodyPost_ret (v := .tuple #[v, .slice Al ll.length cl, Rc.val ⟨ra, rj, rs⟩]) (by simp [results, Try.results39, go_sem, c0, c1, c2]) rfl ?_
  have hk : ∀ k, v.ownBlock = some k → k ≠ w.heap.size := fun k e => by have := (World.ownsRow.lt HP.out k e).1; omega
  refine ⟨l, v, ll, _, ⟨ra, rj, rs⟩, rfl, ownP_less (((HP.out.far hk 0 _).far hk 1 _).far hk 2 _) (by omega), (((HL.out.far hz1 hz1 0 _).far hz1 hz1 1 _).far hz1 hz1 2 _).less (by omega) (by omega), hl, hll, HBD.out, HRI.out,
    (((HR3.out.setCell (a := ⟨w.heap.size, 0, none⟩) hR _).setCell (a := ⟨w.heap.size, 1, none⟩) hR _).setCell (a := ⟨w.heap.size, 2, none⟩) hR _).more (by omega),
    grown_set (grown_set (grown_set HGW.out (p := ⟨w.heap.size, 0, none⟩) (.inr (Nat.le_refl _)) _) (p := ⟨w.heap.size, 1, none⟩) (.inr (Nat.le_refl _)) _) (p := ⟨w.heap.size, 2, none⟩) (.inr (Nat.le_refl _)) _⟩
/-- People, a ladder and a recoding somewhere in new memory. -/
def DrawnA (w : World) (e : Ending) (w' : World) : Prop :=
  ∃ l A c ll A2 c2 r, e = .returned (.tuple #[.slice A l.length c, .slice A2 ll.length c2, Rc.val r]) ∧ Row w' w'.heap.size A (pcells l) ∧ LL w' w'.heap.size A2 ll ∧ l.length ≤ 10 ∧ l.length ≤ c ∧ c ≤ maxLen ∧ ll.length ≤ 4 ∧ ll.length ≤ c2 ∧ c2 ≤ maxLen ∧ (∀ p ∈ l, Bd p) ∧ RcIn ll.length r ∧ Below w.heap.size w w'
theorem drawA_end {w w1 w2 : World} {v u : Value} {l : List Pn} {ll : List (List Int)} {r : Rc} {R : Nat} (hb : Below w.heap.size w w1) (hRw : w.heap.size ≤ R) (hg : w1.grownBy w2 (some R)) (ho : Own w2 w1.heap.size v l) (hl : OwnLL w2 w1.heap.size w1.heap.size u ll) (h1 : l.length ≤ 10) (h2 : ll.length ≤ 4)
    (h3 : ∀ p ∈ l, Bd p) (h4 : RcIn ll.length r) : DrawnA w (.returned (.tuple #[v, u, Rc.val r])) w2 := by
  obtain ⟨A, c, rfl, a1, a2, a3, _⟩ := ho.form
  obtain ⟨A2, c2, rfl, b1, b2, b3⟩ := hl.form
  exact ⟨l, A, c, ll, A2, c2, r, rfl, a3, b3, h1, a1, a2, h2, b1, b2, h3, h4, hb.trans (grown_old hg hRw hb.size)⟩
end Go.Proofs.Ytaaljmmnfgghfaa
namespace Go.Proofs.Ytaaljmmnfgghfaa
open Go.RowKit
theorem below_set {w w' : World} {B : Nat} (h : Below B w w') {p : Addr} (hp : B ≤ p.block) (v : Value) : Below B w (w'.setCell p v) := h.setCell hp v
theorem drawA_end3 {w w1 w2 : World} {v u x y z : Value} {l : List Pn} {ll : List (List Int)} {r : Rc} (hb : Below w.heap.size w w1) (hg : w1.grownBy w2 (some (w.heap.size + 1)))
    (ho : Own (((w2.setCell ⟨w.heap.size, 0, none⟩ x).setCell ⟨w.heap.size, 1, none⟩ y).setCell ⟨w.heap.size, 2, none⟩ z) w1.heap.size v l)
    (hl : OwnLL (((w2.setCell ⟨w.heap.size, 0, none⟩ x).setCell ⟨w.heap.size, 1, none⟩ y).setCell ⟨w.heap.size, 2, none⟩ z) w1.heap.size w1.heap.size u ll) (h1 : l.length ≤ 10) (h2 : ll.length ≤ 4)
    (h3 : ∀ p ∈ l, Bd p) (h4 : RcIn ll.length r) : DrawnA w (.returned (.tuple #[v, u, Rc.val r])) (((w2.setCell ⟨w.heap.size, 0, none⟩ x).setCell ⟨w.heap.size, 1, none⟩ y).setCell ⟨w.heap.size, 2, none⟩ z) := by
  obtain ⟨A, c, rfl, a1, a2, a3, _⟩ := ho.form
  obtain ⟨A2, c2, rfl, b1, b2, b3⟩ := hl.form
  have hb2 : Below w.heap.size w w2 := hb.trans (grown_old hg (by omega) hb.size)
  exact ⟨l, A, c, ll, A2, c2, r, rfl, a3, b3, h1, a1, a2, h2, b1, b2, h3, h4, below_set (below_set (below_set hb2 (p := ⟨w.heap.size, 0, none⟩) (Nat.le_refl _) x) (p := ⟨w.heap.size, 1, none⟩) (Nat.le_refl _) y) (p := ⟨w.heap.size, 2, none⟩) (Nat.le_refl _) z⟩
end Go.Proofs.Ytaaljmmnfgghfaa
namespace Go.Proofs.Ytaaljmmnfgghfaa
open Go.RowKit
def AtDrawn (R q : Nat) (w : World) (e : Ending) (w' : World) : Prop :=
  ∃ l v ll u r, ∃ k : Int, e = .returned (.tuple #[v, u, Rc.val r, .int .i64 k]) ∧ Own w' w.heap.size v l ∧ OwnLL w' w.heap.size w.heap.size u ll ∧ l.length ≤ 10 ∧ ll.length ≤ 4 ∧ (∀ p ∈ l, Bd p) ∧ RcIn ll.length r ∧ -1 ≤ k ∧ k ≤ l.length ∧ RdN w' R (q + 210) ∧ w.grownBy w' (some R)
/-- What is known when the index is drawn. -/
def AtMid (R q : Nat) (l : List Pn) (v : Value) (ll : List (List Int)) (u : Value) (w w3 : World) : Prop :=
  Own w3 (w.heap.size + 1) v l ∧ OwnLL w3 (w.heap.size + 1) (w.heap.size + 1) u ll ∧ RdN w3 R (q + 210) ∧ w.grownBy w3 (some R)
theorem at_end {R q : Nat} {w w3 : World} {l : List Pn} {v u x y z : Value} {ll : List (List Int)} {r : Rc} {k : Int} (h : AtMid R q l v ll u w w3) (hR : R < w.heap.size) (h1 : l.length ≤ 10) (h2 : ll.length ≤ 4) (h3 : ∀ p ∈ l, Bd p) (h4 : RcIn ll.length r) (k0 : -1 ≤ k) (k1 : k ≤ l.length) :
    AtDrawn R q w (.returned (.tuple #[v, u, Rc.val r, .int .i64 k])) (((w3.setCell ⟨w.heap.size, 0, none⟩ x).setCell ⟨w.heap.size, 1, none⟩ y).setCell ⟨w.heap.size, 2, none⟩ z) := by
  obtain ⟨ho, hl, hr, hg⟩ := h
  have hk : ∀ k, v.ownBlock = some k → k ≠ w.heap.size := fun k e => by have := (World.ownsRow.lt ho k e).1; omega
  have hw : w.heap.size < w.heap.size + 1 := by omega
  exact ⟨l, v, ll, u, r, k, rfl, ownP_less (((ho.far hk 0 _).far hk 1 _).far hk 2 _) (by omega), (((hl.far hw hw 0 _).far hw hw 1 _).far hw hw 2 _).less (by omega) (by omega), h1, h2, h3, h4, k0, k1,
    ((hr.setCell (a := ⟨w.heap.size, 0, none⟩) hR _).setCell (a := ⟨w.heap.size, 1, none⟩) hR _).setCell (a := ⟨w.heap.size, 2, none⟩) hR _,
    grown_set (grown_set (grown_set hg (p := ⟨w.heap.size, 0, none⟩) (.inr (Nat.le_refl _)) _) (p := ⟨w.heap.size, 1, none⟩) (.inr (Nat.le_refl _)) _) (p := ⟨w.heap.size, 2, none⟩) (.inr (Nat.le_refl _)) _⟩
theorem AtDrawn.alloc {R q : Nat} {w w' : World} {e : Ending} (h : AtDrawn R q w e w') (o : Obj) : AtDrawn R q w e (w'.alloc o) := by
  obtain ⟨l, v, ll, u, r, k, he, ho, hl, h1, h2, h3, h4, k0, k1, hr, hg⟩ := h
  exact ⟨l, v, ll, u, r, k, he, Own.alloc ho o, hl.alloc o, h1, h2, h3, h4, k0, k1, hr.alloc o, grown_alloc hg o⟩
theorem AtMid.grown {R q : Nat} {w w3 w4 : World} {l : List Pn} {v u : Value} {ll : List (List Int)} (h : AtMid R q l v ll u w w3) (hR : R < w.heap.size) (hg : w3.grownBy w4 (some R)) (hr : RdN w4 R (q + 210)) : AtMid R q l v ll u w w4 :=
  ⟨h.1.kept hg (by omega), h.2.1.krr hg (by omega) (by omega), hr, grown_trans h.2.2.2 hg⟩
theorem AtMid.alloc {R q : Nat} {w w3 : World} {l : List Pn} {v u : Value} {ll : List (List Int)} (h : AtMid R q l v ll u w w3) (o : Obj) : AtMid R q l v ll u w (w3.alloc o) :=
  ⟨Own.alloc h.1 o, h.2.1.alloc o, h.2.2.1.alloc o, grown_alloc h.2.2.2 o⟩
theorem two_any {a b : Int} {t : TypeId} (n y : Nat) (hy : y < 2) : ∃ z, (z = a ∨ z = b) ∧ ∀ W : World, W.heap.size = n → (W.alloc (.cells #[.int .i64 a, .int .i64 b] t)).cell? ⟨n, y, none⟩ = some (.int .i64 z) := by
  rcases (show y = 0 ∨ y = 1 by omega) with rfl | rfl
  · exact ⟨a, .inl rfl, fun W h => by subst h; exact cell_of_row _ _ 0 _ _ _ (heap_alloc_new W _)⟩
  · exact ⟨b, .inr rfl, fun W h => by subst h; exact cell_of_row _ _ 1 _ _ _ (heap_alloc_new W _)⟩
set_option maxHeartbeats 8000000 in
theorem at_any (R q : Nat) (hq : q + 210 < 1000000) (w : World) (hr : RdN w R q) :
    Calls Try.prog 24 #[.pointer (some ⟨R, 0, none⟩)] w (AtDrawn R q w) := by
  have hR := hr.lt
  go_enter Try.func24, Try.ntmps24
  go_wp2_with fail
  refine (all_any R q (by omega) _ (hr.alloc _)).mono ?_
  rintro e w1 ⟨l, v, ll, u, r, rfl, ho, hlo, hl, hll, hbd, hri, hr1, hg1⟩
  have e : (w.alloc (.cells #[.int .i64 0, .int .i64 0, .int .i64 0] TRc)).heap.size = w.heap.size + 1 := by simp
  rw [e] at ho hlo
  have hG1 := grown_blk hg1 (heap_alloc_new w _) (by omega)
  have hz1 : w.heap.size < w1.heap.size := (Array.getElem?_eq_some_iff.1 hG1).1
  obtain ⟨Al, cl, hv, hlc, hcm, _, _⟩ := ho.form
  subst hv
  have HM := Lib.hid (AtMid.alloc (show AtMid R q l _ ll u w w1 from ⟨ho, hlo, hr1.more (by omega), grown_trans (World.grownBy_alloc w _ _) hg1⟩) (.cells #[.int .i64 r.area, .int .i64 r.job, .int .i64 r.sex] TRc))
  have HQ := Lib.hid (heap_alloc_new w1 (.cells #[.int .i64 r.area, .int .i64 r.job, .int .i64 r.sex] TRc))
  have HG := Lib.hid (keep1 (o := .cells #[.int .i64 r.area, .int .i64 r.job, .int .i64 r.sex] TRc) hG1)
  have hr2 : RdN (w1.alloc (.cells #[.int .i64 r.area, .int .i64 r.job, .int .i64 r.sex] TRc)) R (q + 200) := hr1.alloc _
  have HBD := Lib.hid hbd
  have HRI := Lib.hid hri
  have hQz : (w1.alloc (.cells #[.int .i64 r.area, .int .i64 r.job, .int .i64 r.sex] TRc)).heap.size = w1.heap.size + 1 := by simp
  have HQZ := Lib.hid hQz
  clear ho hlo hr1 hg1 hG1 hbd hri e hr hQz
  have HZ := Lib.hid (show R < w1.heap.size by omega)
  by_cases hl0 : l.length = 0
  · have hl0' : ((l.length : Int) == 0) = true := by rw [beq_iff_eq]; omega
    have HRD := Lib.hid (hr2.more (q' := q + 201) (by omega))
    clear hl0
    go_wp2_with fail
    clear hl0' hr2
    obtain ⟨W, hW⟩ : ∃ W, W = (w1.alloc (.cells #[.int .i64 r.area, .int .i64 r.job, .int .i64 r.sex] TRc)) := ⟨_, rfl⟩
    rw [← hW] at HM HQ HG HRD
    rw [← hW]
    clear hW
    have hWQ : w1.heap.size < W.heap.size := (Array.getElem?_eq_some_iff.1 HQ.out).1
    obtain ⟨c0, c1, c2, _, _, _⟩ := blk3 HQ.out
    obtain ⟨d0, d1, d2, e0, e1, e2⟩ := blk3 HG.out
    have hWR : R < W.heap.size := HRD.out.lt
    have hWG : w.heap.size < W.heap.size := (Array.getElem?_eq_some_iff.1 HG.out).1
    have hn7 : ¬ W.heap.size = w1.heap.size := by omega
    have hn8 : ¬ w1.heap.size = W.heap.size := by omega
    have hn1 : ¬ W.heap.size = w.heap.size := by omega
    have hn2 : ¬ w.heap.size = W.heap.size := by omega
    go_wp2
    go_region_with (first
      | (go_at_call 41
         refine (pick_any 2 (by omega) (by omega) R (q + 201) (by omega) _ (show RdN ((W.alloc (.cells #[.int .i64 (-1), .int .i64 l.length] 3)).drew) R (q + 201) from HRD.out.alloc _)).mono ?_
         rintro e w9 ⟨y, rfl, y0, y1, hr9, hg9⟩
         obtain ⟨y, rfl⟩ := Int.eq_ofNat_of_zero_le y0
         obtain ⟨z, hz, hz2⟩ := two_cell (new_block (undrew hg9) hWR) y (by omega)
         have HM9 := Lib.hid ((HM.out.alloc _).grown hR (undrew hg9) (hr9.more (by omega)))
         obtain ⟨c0', c1', c2', _, _, _⟩ := blk3 (grown_blk (undrew hg9) (keep1 HQ.out) (by have := HZ.out; omega))
         obtain ⟨d0', d1', d2', e0', e1', e2'⟩ := blk3 (grown_blk (undrew hg9) (keep1 HG.out) (by omega))
         clear hg9 hr9)
      | (go_at_call 41
         refine (pick_any 2 (by omega) (by omega) R (q + 201) (by omega) _ (show RdN W.drew R (q + 201) from HRD.out)).mono ?_
         rintro e w9 ⟨y, rfl, y0, y1, hr9, hg9⟩
         obtain ⟨y, rfl⟩ := Int.eq_ofNat_of_zero_le y0
         have hn3 : ¬ w9.heap.size = w.heap.size := by have := (undrew hg9).size; omega
         have hn4 : ¬ w.heap.size = w9.heap.size := by omega
         have hlt9 : w.heap.size < w9.heap.size := by have := (undrew hg9).size; omega
         have hlq9 : w1.heap.size < w9.heap.size := by have h5 := (undrew hg9).size; have h6 := (Array.getElem?_eq_some_iff.1 HQ.out).1; omega
         have hn5 : ¬ w1.heap.size = w9.heap.size := by omega
         have hn6 : ¬ w9.heap.size = w1.heap.size := by omega
         obtain ⟨z, hz2, hzA⟩ := two_any (a := -1) (b := l.length) (t := 3) w9.heap.size y (by omega)
         have hz := hzA w9 rfl
         have HM9 := Lib.hid (HM.out.grown hR (undrew hg9) (hr9.more (by omega)))
         obtain ⟨c0', c1', c2', _, _, _⟩ := blk3 (grown_blk (undrew hg9) HQ.out (by have := HZ.out; omega))
         obtain ⟨d0', d1', d2', e0', e1', e2'⟩ := blk3 (grown_blk (undrew hg9) HG.out (by omega))
         clear hg9 hr9))
    all_goals
      go_wp2
      refine bodyPost_ret (v := .tuple #[.slice Al l.length cl, u, r.val, .int .i64 z]) (by simp [results, Try.results24, go_sem, Act.put, *]) rfl ?_
      first
        | with_reducible exact at_end HM9.out hR hl hll HBD.out HRI.out (by omega) (by omega)
        | with_reducible exact (at_end HM9.out hR hl hll HBD.out HRI.out (by omega) (by omega)).alloc _
  · have hl0' : ((l.length : Int) == 0) = false := by rw [beq_eq_false_iff_ne]; omega
    go_wp2_with fail
    refine (pick_any 24 (by omega) (by omega) R (q + 200) (by omega) _ hr2).mono ?_
    rintro e W ⟨x, rfl, x0, x1, hrW, hgW⟩
    have HRD := Lib.hid hrW
    have HM2 := Lib.hid (HM.out.grown hR hgW (hrW.more (by omega)))
    have HQ2 := Lib.hid (grown_blk hgW HQ.out (by omega))
    have HG2 := Lib.hid (grown_blk hgW HG.out (by omega))
    clear HM HQ HG hgW hrW hr2
    have HM := HM2; have HQ := HQ2; have HG := HG2
    clear HM2 HQ2 HG2
    by_cases hx : x = 0
    · subst hx
      have hWQ : w1.heap.size < W.heap.size := (Array.getElem?_eq_some_iff.1 HQ.out).1
      obtain ⟨c0, c1, c2, _, _, _⟩ := blk3 HQ.out
      obtain ⟨d0, d1, d2, e0, e1, e2⟩ := blk3 HG.out
      have hWR : R < W.heap.size := HRD.out.lt
      have hWG : w.heap.size < W.heap.size := (Array.getElem?_eq_some_iff.1 HG.out).1
      have hn7 : ¬ W.heap.size = w1.heap.size := by omega
      have hn8 : ¬ w1.heap.size = W.heap.size := by omega
      have hn1 : ¬ W.heap.size = w.heap.size := by omega
      have hn2 : ¬ w.heap.size = W.heap.size := by omega
      go_wp2
      go_region_with (first
        | (go_at_call 41
           refine (pick_any 2 (by omega) (by omega) R (q + 201) (by omega) _ (show RdN ((W.alloc (.cells #[.int .i64 (-1), .int .i64 l.length] 3)).drew) R (q + 201) from HRD.out.alloc _)).mono ?_
           rintro e w9 ⟨y, rfl, y0, y1, hr9, hg9⟩
           obtain ⟨y, rfl⟩ := Int.eq_ofNat_of_zero_le y0
           obtain ⟨z, hz, hz2⟩ := two_cell (new_block (undrew hg9) hWR) y (by omega)
           have HM9 := Lib.hid ((HM.out.alloc _).grown hR (undrew hg9) (hr9.more (by omega)))
           obtain ⟨c0', c1', c2', _, _, _⟩ := blk3 (grown_blk (undrew hg9) (keep1 HQ.out) (by have := HZ.out; omega))
           obtain ⟨d0', d1', d2', e0', e1', e2'⟩ := blk3 (grown_blk (undrew hg9) (keep1 HG.out) (by omega))
           clear hg9 hr9)
        | (go_at_call 41
           refine (pick_any 2 (by omega) (by omega) R (q + 201) (by omega) _ (show RdN W.drew R (q + 201) from HRD.out)).mono ?_
           rintro e w9 ⟨y, rfl, y0, y1, hr9, hg9⟩
           obtain ⟨y, rfl⟩ := Int.eq_ofNat_of_zero_le y0
           have hn3 : ¬ w9.heap.size = w.heap.size := by have := (undrew hg9).size; omega
           have hn4 : ¬ w.heap.size = w9.heap.size := by omega
           have hlt9 : w.heap.size < w9.heap.size := by have := (undrew hg9).size; omega
           have hlq9 : w1.heap.size < w9.heap.size := by have h5 := (undrew hg9).size; have h6 := (Array.getElem?_eq_some_iff.1 HQ.out).1; omega
           have hn5 : ¬ w1.heap.size = w9.heap.size := by omega
           have hn6 : ¬ w9.heap.size = w1.heap.size := by omega
           obtain ⟨z, hz2, hzA⟩ := two_any (a := -1) (b := l.length) (t := 3) w9.heap.size y (by omega)
           have hz := hzA w9 rfl
           have HM9 := Lib.hid (HM.out.grown hR (undrew hg9) (hr9.more (by omega)))
           obtain ⟨c0', c1', c2', _, _, _⟩ := blk3 (grown_blk (undrew hg9) HQ.out (by have := HZ.out; omega))
           obtain ⟨d0', d1', d2', e0', e1', e2'⟩ := blk3 (grown_blk (undrew hg9) HG.out (by omega))
           clear hg9 hr9))
      all_goals
        go_wp2
        refine bodyPost_ret (v := .tuple #[.slice Al l.length cl, u, r.val, .int .i64 z]) (by simp [results, Try.results24, go_sem, Act.put, *]) rfl ?_
        first
          | with_reducible exact at_end HM9.out hR hl hll HBD.out HRI.out (by omega) (by omega)
          | with_reducible exact (at_end HM9.out hR hl hll HBD.out HRI.out (by omega) (by omega)).alloc _
    · have hxb : (x == 0) = false := by rw [beq_eq_false_iff_ne]; exact hx
      have hWQ : w1.heap.size < W.heap.size := (Array.getElem?_eq_some_iff.1 HQ.out).1
      obtain ⟨c0, c1, c2, _, _, _⟩ := blk3 HQ.out
      obtain ⟨d0, d1, d2, e0, e1, e2⟩ := blk3 HG.out
      have hWR : R < W.heap.size := HRD.out.lt
      have hWG : w.heap.size < W.heap.size := (Array.getElem?_eq_some_iff.1 HG.out).1
      clear hx
      go_wp2
      go_region_with (first
        | (go_at_call 41
           refine (pick_any l.length (by omega) (by omega) R (q + 201) (by omega) _ (show RdN W.drew R (q + 201) from HRD.out)).mono ?_
           rintro e w9 ⟨y, rfl, y0, y1, hr9, hg9⟩
           have hlt9 : w.heap.size < w9.heap.size := by have := (undrew hg9).size; omega
           have HM9 := Lib.hid (HM.out.grown hR (undrew hg9) (hr9.more (by omega)))
           obtain ⟨c0', c1', c2', _, _, _⟩ := blk3 (grown_blk (undrew hg9) HQ.out (by have := HZ.out; omega))
           obtain ⟨d0', d1', d2', e0', e1', e2'⟩ := blk3 (grown_blk (undrew hg9) HG.out (by omega))
           clear hg9 hr9))
      all_goals
        go_wp2
        refine bodyPost_ret (v := .tuple #[.slice Al l.length cl, u, r.val, .int .i64 y]) (by simp [results, Try.results24, go_sem, Act.put, *]) rfl ?_
        with_reducible exact at_end HM9.out hR hl hll HBD.out HRI.out (by omega) (by omega)
end Go.Proofs.Ytaaljmmnfgghfaa
namespace Go.Proofs.Ytaaljmmnfgghfaa
open Go.RowKit
def DrawnT (w : World) (e : Ending) (w' : World) : Prop :=
  ∃ l v ll u r, ∃ k : Int, e = .returned (.tuple #[v, u, Rc.val r, .int .i64 k]) ∧ IsP w' v l ∧ IsR w' u ll ∧ l.length ≤ 10 ∧ ll.length ≤ 4 ∧ (∀ p ∈ l, Bd p) ∧ RcIn ll.length r ∧ -1 ≤ k ∧ k ≤ l.length ∧ Below w.heap.size w w'
theorem Own.isP {w : World} {B : Nat} {v : Value} {l : List Pn} (h : Own w B v l) : IsP w v l := by
  obtain ⟨A, c, hv, h1, h2, h3, _⟩ := h.form
  exact ⟨A, c, hv, h1, h2, h3⟩
theorem OwnLL.isR {w : World} {B L : Nat} {v : Value} {ll : List (List Int)} (h : OwnLL w B L v ll) : IsR w v ll := by
  obtain ⟨A, c, hv, h1, h2, h3⟩ := h.form
  exact ⟨A, c, hv, h1, h2, h3⟩
theorem drawT_end3 {w w1 w2 : World} {v u x y z : Value} {l : List Pn} {ll : List (List Int)} {r : Rc} {k : Int} (hb : Below w.heap.size w w1) (hg : w1.grownBy w2 (some (w.heap.size + 1)))
    (ho : Own (((w2.setCell ⟨w.heap.size, 0, none⟩ x).setCell ⟨w.heap.size, 1, none⟩ y).setCell ⟨w.heap.size, 2, none⟩ z) w1.heap.size v l)
    (hl : OwnLL (((w2.setCell ⟨w.heap.size, 0, none⟩ x).setCell ⟨w.heap.size, 1, none⟩ y).setCell ⟨w.heap.size, 2, none⟩ z) w1.heap.size w1.heap.size u ll) (h1 : l.length ≤ 10) (h2 : ll.length ≤ 4)
    (h3 : ∀ p ∈ l, Bd p) (h4 : RcIn ll.length r) (k0 : -1 ≤ k) (k1 : k ≤ l.length) : DrawnT w (.returned (.tuple #[v, u, Rc.val r, .int .i64 k])) (((w2.setCell ⟨w.heap.size, 0, none⟩ x).setCell ⟨w.heap.size, 1, none⟩ y).setCell ⟨w.heap.size, 2, none⟩ z) := by
  have hb2 : Below w.heap.size w w2 := hb.trans (grown_old hg (by omega) hb.size)
  exact ⟨l, v, ll, u, r, k, rfl, ho.isP, hl.isR, h1, h2, h3, h4, k0, k1, below_set (below_set (below_set hb2 (p := ⟨w.heap.size, 0, none⟩) (Nat.le_refl _) x) (p := ⟨w.heap.size, 1, none⟩) (Nat.le_refl _) y) (p := ⟨w.heap.size, 2, none⟩) (Nat.le_refl _) z⟩
/-- People, a ladder and a recoding, by values. -/
def DrawnW (w : World) (e : Ending) (w' : World) : Prop :=
  ∃ l v ll u r, e = .returned (.tuple #[v, u, Rc.val r]) ∧ IsP w' v l ∧ IsR w' u ll ∧ l.length ≤ 10 ∧ ll.length ≤ 4 ∧ (∀ p ∈ l, Bd p) ∧ RcIn ll.length r ∧ Below w.heap.size w w'
theorem DrawnA.byW {w w' : World} {e : Ending} (h : DrawnA w e w') : DrawnW w e w' := by
  obtain ⟨l, A, c, ll, A2, c2, r, he, h1, h2, h3, h4, h5, h6, h7, h8, h9, h10, h11⟩ := h
  exact ⟨l, _, ll, _, r, he, ⟨A, c, rfl, h4, h5, h1⟩, ⟨A2, c2, rfl, h7, h8, h2⟩, h3, h6, h9, h10, h11⟩
end Go.Proofs.Ytaaljmmnfgghfaa
namespace Go.Proofs.Ytaaljmmnfgghfaa
open Go.RowKit
theorem OwnLL.same {w w' : World} {B L : Nat} {v : Value} {ll : List (List Int)} (h : OwnLL w B L v ll) (hz : w.heap.size ≤ w'.heap.size) (hk : ∀ k, (B ≤ k ∨ L ≤ k) → k < w.heap.size → w'.heap[k]? = w.heap[k]?) : OwnLL w' B L v ll := by
  obtain ⟨hs, h1, h2⟩ := h
  exact ⟨hs, h1.same fun k e => hk k (.inl (h1.ob k e).1) (h1.ob k e).2, h2.keep hz fun b hb hlt hne => ⟨hk b (.inr hb) hlt, hne⟩⟩
theorem OwnLL.isRx {w : World} {B L : Nat} {v : Value} {ll : List (List Int)} (h : OwnLL w B L v ll) : IsR w v ll := by
  obtain ⟨A, c, hv, h1, h2, h3⟩ := h.form
  exact ⟨A, c, hv, h1, h2, h3⟩
/-- What was made between w1 and w2 is as it was, and so is all that w has. -/
def FM (w w1 w2 w' : World) : Prop := w2.heap.size ≤ w'.heap.size ∧ (∀ k, w1.heap.size ≤ k → k < w2.heap.size → w'.heap[k]? = w2.heap[k]?) ∧ Below w.heap.size w w'
section
variable {w w1 w2 w' w'' : World} {R : Nat}
theorem FM.grown (h : FM w w1 w2 w') (hg : w'.grownBy w'' (some R)) (h1 : w.heap.size ≤ R) (h2 : R < w1.heap.size) : FM w w1 w2 w'' :=
  ⟨Nat.le_trans h.1 hg.size, fun k a b => (hg.block k (Nat.lt_of_lt_of_le b h.1) (fun e => by injection e; omega)).trans (h.2.1 k a b), h.2.2.trans (grown_old hg h1 h.2.2.size)⟩
theorem FM.alloc (h : FM w w1 w2 w') (o : Obj) : FM w w1 w2 (w'.alloc o) :=
  ⟨by simp; have := h.1; omega, fun k a b => ((Below.refl _ w').alloc (Nat.le_refl _) o |>.block k (Nat.lt_of_lt_of_le b h.1)).trans (h.2.1 k a b), h.2.2.alloc h.2.2.size o⟩
theorem FM.set (h : FM w w1 w2 w') (p : Addr) (hp : w.heap.size ≤ p.block) (hq : p.block < w1.heap.size ∨ w2.heap.size ≤ p.block) (v : Value) : FM w w1 w2 (w'.setCell p v) :=
  ⟨by simpa [World.setCell] using h.1, fun k a b => (Below.heap_setCell w' p v k (by omega)).trans (h.2.1 k a b), h.2.2.setCell hp v⟩
theorem FM.drew (h : FM w w1 w2 w') : FM w w1 w2 w'.drew := ⟨h.1, h.2.1, h.2.2.drew⟩
end
def DrawnR1 (w : World) (e : Ending) (w' : World) : Prop := ∃ ll u a, e = .returned (.tuple #[u, Rc.val a]) ∧ IsR w' u ll ∧ ll.length ≤ 4 ∧ Below w.heap.size w w'
def DrawnR2 (w : World) (e : Ending) (w' : World) : Prop := ∃ ll u a b, e = .returned (.tuple #[u, Rc.val a, Rc.val b]) ∧ IsR w' u ll ∧ ll.length ≤ 4 ∧ Below w.heap.size w w'
theorem end1 {w w1 w2 w' : World} {u : Value} {ll : List (List Int)} {a : Rc} (h : FM w w1 w2 w') (ho : OwnLL w2 w1.heap.size w1.heap.size u ll) (hl : ll.length ≤ 4) : DrawnR1 w (.returned (.tuple #[u, Rc.val a])) w' :=
  ⟨ll, u, a, rfl, (ho.same h.1 fun k a b => h.2.1 k (by omega) b).isRx, hl, h.2.2⟩
theorem end2 {w w1 w2 w' : World} {u : Value} {ll : List (List Int)} {a b : Rc} (h : FM w w1 w2 w') (ho : OwnLL w2 w1.heap.size w1.heap.size u ll) (hl : ll.length ≤ 4) : DrawnR2 w (.returned (.tuple #[u, Rc.val a, Rc.val b])) w' :=
  ⟨ll, u, a, b, rfl, (ho.same h.1 fun k a b => h.2.1 k (by omega) b).isRx, hl, h.2.2⟩
theorem end2x {w w1 w2 w' : World} {u : Value} {ll : List (List Int)} {a b c x y z : Int} (h : FM w w1 w2 w') (ho : OwnLL w2 w1.heap.size w1.heap.size u ll) (hl : ll.length ≤ 4) :
    DrawnR2 w (.returned (.tuple #[u, .agg #[.int .i64 a, .int .i64 b, .int .i64 c], .agg #[.int .i64 x, .int .i64 y, .int .i64 z]])) w' := end2 (a := ⟨a, b, c⟩) (b := ⟨x, y, z⟩) h ho hl
end Go.Proofs.Ytaaljmmnfgghfaa
