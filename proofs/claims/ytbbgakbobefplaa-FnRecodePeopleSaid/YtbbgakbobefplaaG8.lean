/- Drawing people, ladders and recodings. -/
import Derived.Test.YtbbgakbobefplaaG7
namespace Go.Proofs.Ytbbgakbobefplaa
open Go.RowKit
/-- People, a ladder and a recoding, made anew. -/
def AllDrawn (R q : Nat) (w : World) (e : Ending) (w' : World) : Prop :=
  ∃ l v ll u r, e = .returned (.tuple #[v, u, Rc.val r]) ∧ Own w' w.heap.size v l ∧ OwnLL w' w.heap.size w.heap.size u ll ∧ l.length ≤ 10 ∧ ll.length ≤ 4 ∧ (∀ p ∈ l, Bd p) ∧ RcIn ll.length r ∧ RdN w' R (q + 200) ∧ w.grownBy w' (some R)
theorem OwnLL.krr {w w' : World} {B L R : Nat} {v : Value} {ll : List (List Int)} (h : OwnLL w B L v ll) (hg : w.grownBy w' (some R)) (hB : R < B) (hL : R < L) : OwnLL w' B L v ll :=
  h.kept hg (fun k hk => by injection hk; omega) (fun k hk => by injection hk; omega)
theorem OwnLL.far {w : World} {B L Q : Nat} {v : Value} {ll : List (List Int)} (h : OwnLL w B L v ll) (hB : Q < B) (hL : Q < L) (o : Nat) (x : Value) : OwnLL (w.setCell ⟨Q, o, none⟩ x) B L v ll := by
  obtain ⟨hs, h1, h2⟩ := h
  refine ⟨hs, ?_, h2.keep (by simp [World.setCell]) fun b hb _ hne => ⟨Below.heap_setCell w ⟨Q, o, none⟩ x b (by show b ≠ Q; omega), hne⟩⟩
  have hob := h1.ob
  obtain ⟨a1, a2⟩ := h1
  refine ⟨a1, ?_⟩
  rcases a2 with a2 | ⟨g, cap, cur, rfl, hg, hh, r⟩
  · exact .inl a2
  · exact .inr ⟨g, cap, cur, rfl, hg, (Below.heap_setCell w ⟨Q, o, none⟩ x g (by show g ≠ Q; omega)).trans hh, r⟩
set_option maxHeartbeats 1000000 in
theorem all_any (R q : Nat) (hq : q + 200 < 1000000) (w : World) (hr : RdN w R q) :
    Calls Try.prog 30 #[.pointer (some ⟨R, 0, none⟩)] w (AllDrawn R q w) := by
  have hR := hr.lt
  go_enter Try.func30, Try.ntmps30
  go_wp2_with fail
  refine (people_any 10 (by omega) R q (by omega) _ (hr.alloc _)).mono ?_
  rintro e w1 ⟨l, v, rfl, ho1, hl, hbd, hr1, hg1⟩
  have hR1 := hr1.lt
  have hz1 : w.heap.size < w1.heap.size := by have := hg1.size; simp at this; omega
  go_wp2_with fail
  refine (ladder_any R _ (by omega) _ hr1).mono ?_
  rintro e w2 ⟨u, ll, rfl, ho2, hll, hr2, hg2⟩
  obtain ⟨Al, cl, hv, hc1, hc2, _⟩ := ho2.form
  subst hv
  go_wp2_with fail
  refine (recode_any R _ (by omega) Al ll.length cl (by omega) _ hr2).mono ?_
  rintro e w3 ⟨r, rfl, hri, hr3, hg3⟩
  have hp : Own w3 (w.heap.size + 1) v l := by
    have h := (Own.kept (Own.kept ho1 hg2 (by simp; omega)) hg3 (by simp; omega))
    have e : (w.alloc (.cells #[.int .i64 0, .int .i64 0, .int .i64 0] TRc)).heap.size = w.heap.size + 1 := by simp
    rw [e] at h; exact h
  have hl3 := ho2.krr hg3 (by omega) (by omega)
  have hG0 := grown_blk hg3 (grown_blk hg2 (grown_blk hg1 (heap_alloc_new w _) (by omega)) (by omega)) (by omega)
  have HGW := Lib.hid (grown_trans (World.grownBy_alloc w (.cells #[.int .i64 0, .int .i64 0, .int .i64 0] TRc) (some R)) (grown_trans (grown_trans hg1 hg2) hg3))
  have HP := Lib.hid hp
  have HL := Lib.hid hl3
  have HBD := Lib.hid hbd
  have HRI := Lib.hid hri
  have HR3 := Lib.hid hr3
  obtain ⟨c0, c1, c2, f0, f1, f2⟩ := blk3 hG0
  have hGz : w.heap.size < w3.heap.size := (Array.getElem?_eq_some_iff.1 hG0).1
  clear hp hl3 hG0 hg1 hg2 hg3 hbd hri hr1 hr2 hr3 ho1 ho2 hr
  obtain ⟨ra, rj, rs⟩ := r
  go_wp2
  refine bodyPost_ret (v := .tuple #[v, .slice Al ll.length cl, Rc.val ⟨ra, rj, rs⟩]) (by simp [results, Try.results30, go_sem, c0, c1, c2]) rfl ?_
  have hk : ∀ k, v.ownBlock = some k → k ≠ w.heap.size := fun k e => by have := (World.ownsRow.lt HP.out k e).1; omega
  refine ⟨l, v, ll, _, ⟨ra, rj, rs⟩, rfl, ownP_less (((HP.out.far hk 0 _).far hk 1 _).far hk 2 _) (by omega), (((HL.out.far hz1 hz1 0 _).far hz1 hz1 1 _).far hz1 hz1 2 _).less (by omega) (by omega), hl, hll, HBD.out, HRI.out,
    (((HR3.out.setCell (a := ⟨w.heap.size, 0, none⟩) hR _).setCell (a := ⟨w.heap.size, 1, none⟩) hR _).setCell (a := ⟨w.heap.size, 2, none⟩) hR _).more (by omega),
    grown_set (grown_set (grown_set HGW.out (p := ⟨w.heap.size, 0, none⟩) (.inr (Nat.le_refl _)) _) (p := ⟨w.heap.size, 1, none⟩) (.inr (Nat.le_refl _)) _) (p := ⟨w.heap.size, 2, none⟩) (.inr (Nat.le_refl _)) _⟩
/-- People, a ladder and a recoding somewhere in new memory. -/
def DrawnA (w : World) (e : Ending) (w' : World) : Prop :=
  ∃ l A c ll A2 c2 r, e = .returned (.tuple #[.slice A l.length c, .slice A2 ll.length c2, Rc.val r]) ∧ Row w' w'.heap.size A (pcells l) ∧ LL w' w'.heap.size A2 ll ∧ l.length ≤ 10 ∧ l.length ≤ c ∧ c ≤ maxLen ∧ ll.length ≤ 4 ∧ ll.length ≤ c2 ∧ c2 ≤ maxLen ∧ (∀ p ∈ l, Bd p) ∧ RcIn ll.length r ∧ Below w.heap.size w w'
theorem drawA_end {w w1 w2 : World} {v u : Value} {l : List Pn} {ll : List (List Int)} {r : Rc} {R : Nat} (hb : Below w.heap.size w w1) (hRw : w.heap.size ≤ R) (hg : w1.grownBy w2 (some R)) (ho : Own w2 w1.heap.size v l) (hl : OwnLL w2 w1.heap.size w1.heap.size u ll) (h1 : l.length ≤ 10) (h2 : ll.length ≤ 4)
    (h3 : ∀ p ∈ l, Bd p) (h4 : RcIn ll.length r) : DrawnA w (.returned (.tuple #[v, u, Rc.val r])) w2 := by
  obtain ⟨A, c, rfl, a1, a2, a3, _⟩ := ho.form
  obtain ⟨A2, c2, rfl, b1, b2, b3⟩ := hl.form
  exact ⟨l, A, c, ll, A2, c2, r, rfl, a3, b3, h1, a1, a2, h2, b1, b2, h3, h4, hb.trans (grown_old hg hRw hb.size)⟩
end Go.Proofs.Ytbbgakbobefplaa
