import Derived.Test.YtbbgakbobefplaaL6
namespace Go.Proofs.Ytbbgakbobefplaa
open Go.RowKit
theorem head_lit (w : World) (x : List Int) (cs : Array Value) (hcs : cs.toList = icells x) (hm : x.length ≤ 1000) (L : Nat) (no : Option Nat) (hL : L ≤ w.heap.size) (hno : ∀ k, no = some k → k < w.heap.size) :
    Heads (w.alloc (.cells cs TN)) L no [.slice (some ⟨w.heap.size, 0, none⟩) x.length x.length] [x] := by
  refine ⟨rfl, fun i hi => ?_⟩
  obtain rfl : i = 0 := by simp at hi; exact hi
  refine ⟨some ⟨w.heap.size, 0, none⟩, x.length, rfl, Nat.le_refl _, by simp only [maxLen]; omega, .inr ⟨w.heap.size, 0, rfl, hL, by simp, fun e => by have := hno _ e.symm; omega, fun j u hu => ?_⟩⟩
  have h : (icells x)[j]? = some u := hu
  rw [Nat.zero_add, cell_of_row _ _ j cs TN (0, 0) (heap_alloc_new w _)]
  rw [← hcs] at h; simpa using h
theorem Heads.alloc {w : World} {L : Nat} {no : Option Nat} {hs : List Value} {ll : List (List Int)} (h : Heads w L no hs ll) (o : Obj) : Heads (w.alloc o) L no hs ll :=
  h.keep (by simp) fun b _ hlt hne => ⟨Below.heap_alloc w o b hlt, hne⟩
theorem row_lit' (w : World) (o : Obj) (cs : Array Value) (T : TypeId) : Row ((w.alloc o).alloc (.cells cs T)) (w.heap.size + 2) (some ⟨w.heap.size + 1, 0, none⟩) cs.toList := by
  have h := row_lit (w.alloc o) cs T
  have e : (w.alloc o).heap.size = w.heap.size + 1 := by simp
  rw [e] at h; exact h
def LadDrawn (R q : Nat) (w : World) (e : Ending) (w' : World) : Prop :=
  ∃ v ll, e = .returned v ∧ OwnLL w' w.heap.size w.heap.size v ll ∧ ll.length ≤ 4 ∧ RdN w' R (q + 8) ∧ w.grownBy w' (some R)
theorem ladEnd {w w2 w3 : World} {R q : Nat} {v v3 : Value} {ll ll3 : List (List Int)} (ho : OwnLL w2 w.heap.size w.heap.size v ll) (hr : RdN w2 R (q + 8)) (hg : w.grownBy w2 (some R)) (o1 o2 : Obj)
    (ho3 : OwnLL w3 w.heap.size w.heap.size v3 ll3) (hg3 : ((w2.alloc o1).alloc o2).grownBy w3 v.ownBlock) (hl : ll3.length ≤ 4) (hR : R < w.heap.size) : LadDrawn R q w (.returned v3) w3 :=
  ⟨v3, ll3, rfl, ho3, hl, ((hr.alloc o1).alloc o2).grown hg3 (fun k hk => by have := (ho.ob k hk).1; omega), grown_new (grown_alloc (grown_alloc hg o1) o2) hg3 (fun g hg => (ho.ob g hg).1)⟩
set_option maxHeartbeats 1000000 in
theorem ladder_any (R q : Nat) (hq : q + 8 < 1000000) (w : World) (hr : RdN w R q) :
    Calls Try.prog 47 #[.pointer (some ⟨R, 0, none⟩)] w (LadDrawn R q w) := by
  have hR := hr.lt
  go_enter Try.func47, Try.ntmps47
  go_wp2_with fail
  refine (pick_any 4 (by omega) (by omega) R q (by omega) _ (hr.alloc _)).mono ?_
  rintro e w1 ⟨n, rfl, n0, n1, hr1, hg1⟩
  obtain ⟨n, rfl⟩ := Int.eq_ofNat_of_zero_le n0
  have HG := Lib.hid (grown_trans (World.grownBy_alloc w _ _) hg1)
  have HO := Lib.hid (show OwnLL w1 w.heap.size w.heap.size (.slice (some ⟨w.heap.size, 0, none⟩) 0 0) [] from (ownLL_new (Nat.le_refl _)).kept hg1 (fun k hk => by injection hk; omega) (fun k hk => by injection hk; omega))
  have HR := Lib.hid hr1
  clear hr1 hg1 hr
  go_wp2_with fail
  go_loopw [3, 5] (fun v i wr => ∃ k : Nat, ∃ ll, k ≤ n ∧ i = .int .i64 k ∧ OwnLL wr w.heap.size w.heap.size v ll ∧ ll.length ≤ k ∧ RdN wr R (q + 1 + 2 * k) ∧ w.grownBy wr (some R)) (fun _ i _ => n - (intOf i).toNat)
  case atStart => exact ⟨0, [], Nat.zero_le _, rfl, HO.out, by simp, HR.out, HG.out⟩
  case round =>
    obtain ⟨k, ll, hk, rfl, ho, hlk, hrd, hgr⟩ := hrel
    clear HO HR HG
    have HG := Lib.hid hgr; clear hgr
    have hk3 : k ≤ 3 := by omega
    by_cases hlt : k < n
    · obtain ⟨A, c, rfl, hc1, hc2, _⟩ := ho.form
      have HO := Lib.hid ho; clear ho
      go_wp2_with fail
      refine (pick_any 4 (by omega) (by omega) R (q + 1 + 2 * k) (by omega) _ hrd).mono ?_
      rintro e w2 ⟨x, rfl, x0, x1, hr2, hg2⟩
      go_wp2_with fail
      refine (pick_any 4 (by omega) (by omega) R (q + 1 + 2 * k + 1) (by omega) _ hr2).mono ?_
      rintro e w3 ⟨y, rfl, y0, y1, hr3, hg3⟩
      have hll : ll.length ≤ maxLen := by simp only [maxLen]; omega
      have HO3 := Lib.hid ((HO.out.kept hg2 (fun k hk => by injection hk; omega) (fun k hk => by injection hk; omega)).kept hg3 (fun k hk => by injection hk; omega) (fun k hk => by injection hk; omega))
      have HG3 := Lib.hid (grown_trans HG.out (grown_trans hg2 hg3))
      have hz3 := HG3.out.size
      clear HO HG hg2 hg3 hr2 hrd
      obtain ⟨A', c', hv', _, _, hl3⟩ := HO3.out.form
      injection hv' with e1 e2 e3
      subst e1 e3
      go_wp2_with fail
      refine (sMerge_any ll A ll.length c rfl hll x y _ hl3).mono ?_
      rintro e w4 ⟨v4, rfl, ho4, hb4⟩
      have HG4 := Lib.hid (grown_below HG3.out hb4)
      have hr4 := (hr3.keep (hb4.mono hr3.lt)).more (q' := q + 1 + 2 * (k + 1)) (by omega)
      clear hr3 hl3 e2
      cases hm : mergeOk ll x y
      · have HO4 := Lib.hid (HO3.out.below hb4)
        clear ho4 hb4 HO3 HG3 hm
        go_wp2
        go_roundw
        case rel => exact ⟨k + 1, ll, by omega, by go_num, HO4.out, by omega, hr4, HG4.out⟩
        case measure => simp [intOf]; omega
      · have HO4 := Lib.hid (ho4.own.less hz3 hz3)
        have hl4 : (lmerge ll x y).length ≤ k + 1 := by rw [lmerge, if_pos hm]; simp; omega
        clear ho4 hb4 HO3 HG3 hm
        generalize lmerge ll x y = l4 at *
        go_wp2
        go_roundw
        case rel => exact ⟨k + 1, l4, by omega, by go_num, HO4.out, hl4, hr4, HG4.out⟩
        case measure => simp [intOf]; omega
    · have HO := Lib.hid ho; clear ho
      go_wp2_with fail
      refine (pick_any 40 (by omega) (by omega) R (q + 1 + 2 * k) (by omega) _ hrd).mono ?_
      rintro e w2 ⟨x, rfl, x0, x1, hr2, hg2⟩
      have HO2 := Lib.hid (HO.out.kept hg2 (fun k hk => by injection hk; omega) (fun k hk => by injection hk; omega))
      have HG2 := Lib.hid (grown_trans HG.out hg2)
      have hz2 := HG2.out.size
      have hr2 := hr2.more (q' := q + 8) (by omega)
      clear HO HG hg2 hrd
      obtain ⟨v, hv⟩ : ∃ v : Value, v = u3 := ⟨_, rfl⟩
      rw [← hv] at HO2
      rw [← hv]
      clear hv
      rcases (show x = 0 ∨ x = 1 ∨ x = 2 ∨ 2 < x by omega) with rfl | rfl | rfl | hx
      · have HD := Lib.hid (Heads.alloc (head_lit w2 [0, 0, 1, 3] #[.int .i64 0, .int .i64 0, .int .i64 1, .int .i64 3] rfl (by simp) w.heap.size v.ownBlock hz2 (fun g hg => (HO2.out.ob g hg).2)) (.cells #[.slice (some ⟨w2.heap.size, 0, none⟩) 4 4] TI))
        go_wp2_with (at_builtin
                     go_loud (refine appLL rfl (.tmp 31) (.tmp 33) rfl w.heap.size w.heap.size _ ll rfl ((HO2.out.alloc _).alloc _) (w2.heap.size + 2) (some ⟨w2.heap.size + 1, 0, none⟩) 1 1 [.slice (some ⟨w2.heap.size, 0, none⟩) 4 4] [[0, 0, 1, 3]] rfl rfl (row_lit' w2 _ _ _) HD.out (by simp; omega) (by simp; omega) ?_)
                     intro v3 w3 ho3 hg3)
        go_ret
        exact ladEnd HO2.out hr2 HG2.out _ _ ho3 hg3 (by simp; omega) (by omega)
      · have HD := Lib.hid (Heads.alloc (head_lit w2 [0, 1, 2] #[.int .i64 0, .int .i64 1, .int .i64 2] rfl (by simp) w.heap.size v.ownBlock hz2 (fun g hg => (HO2.out.ob g hg).2)) (.cells #[.slice (some ⟨w2.heap.size, 0, none⟩) 3 3] TI))
        go_wp2_with (at_builtin
                     go_loud (refine appLL rfl (.tmp 37) (.tmp 39) rfl w.heap.size w.heap.size _ ll rfl ((HO2.out.alloc _).alloc _) (w2.heap.size + 2) (some ⟨w2.heap.size + 1, 0, none⟩) 1 1 [.slice (some ⟨w2.heap.size, 0, none⟩) 3 3] [[0, 1, 2]] rfl rfl (row_lit' w2 _ _ _) HD.out (by simp; omega) (by simp; omega) ?_)
                     intro v3 w3 ho3 hg3)
        go_ret
        exact ladEnd HO2.out hr2 HG2.out _ _ ho3 hg3 (by simp; omega) (by omega)
      · have HD := Lib.hid (Heads.alloc (head_lit w2 [0, 1, 2, 3] #[.int .i64 0, .int .i64 1, .int .i64 2, .int .i64 3] rfl (by simp) w.heap.size v.ownBlock hz2 (fun g hg => (HO2.out.ob g hg).2)) (.cells #[.slice (some ⟨w2.heap.size, 0, none⟩) 4 4] TI))
        go_wp2_with (at_builtin
                     go_loud (refine appLL rfl (.tmp 43) (.tmp 45) rfl w.heap.size w.heap.size _ ll rfl ((HO2.out.alloc _).alloc _) (w2.heap.size + 2) (some ⟨w2.heap.size + 1, 0, none⟩) 1 1 [.slice (some ⟨w2.heap.size, 0, none⟩) 4 4] [[0, 1, 2, 3]] rfl rfl (row_lit' w2 _ _ _) HD.out (by simp; omega) (by simp; omega) ?_)
                     intro v3 w3 ho3 hg3)
        go_ret
        exact ladEnd HO2.out hr2 HG2.out _ _ ho3 hg3 (by simp; omega) (by omega)
      · go_wp2
        go_ret
        exact ⟨v, ll, rfl, HO2.out, by omega, hr2, HG2.out⟩
end Go.Proofs.Ytbbgakbobefplaa
