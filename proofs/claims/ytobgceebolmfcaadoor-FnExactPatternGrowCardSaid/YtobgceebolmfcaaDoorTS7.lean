/- Contracts of the model: flags counted, small cells. -/
import Derived.Test.YtobgceebolmfcaaDoorTS6
namespace Go.Proofs.YtobgceebolmfcaaDoor
open Go.RowKit
theorem cntB_take (r : List Bool) {x : Nat} (h : x < r.length) : cntB (r.take (x + 1)) = cntB (r.take x) + if r.getD x false = true then 1 else 0 := by
  rw [List.take_succ_eq_append_getElem h, getD_of _ _ h]
  simp only [cntB, List.filter_append, List.length_append]
  cases r[x] <;> simp
theorem mmany_take (m : Mk) {k : Nat} (h : k < m.length) : mmany (m.take (k + 1)) = mmany (m.take k) + cntB (m.getD k []) := by
  rw [List.take_succ_eq_append_getElem h, mmany_app, getD_of _ _ h]; simp [mmany]
theorem cntB_tle (r : List Bool) (x : Nat) : cntB (r.take x) ≤ cntB r := by
  have e : cntB r = cntB (r.take x) + cntB (r.drop x) := by
    simp only [cntB]; rw [← List.length_append, ← List.filter_append, List.take_append_drop]
  omega
theorem mmany_tle (m : Mk) (k : Nat) : mmany (m.take k) ≤ mmany m := by have := m_maskMany m k; omega
def OutMT (m : Mk) (t : Bool) (w : World) (e : Ending) (w' : World) : Prop := ∃ v, e = .returned (.tuple #[v, .bool t]) ∧ InM w' w.heap.size w'.heap.size v m ∧ Below w.heap.size w w'
theorem take_snocM (t : Tb) (k : Int) (i : Nat) (hi : i < t.length) : msmall (t.take (i + 1)) k = msmall (t.take i) k ++ [small k (t.getD i [])] := by
  rw [take_snocT t i hi]; simp [msmall]
theorem small_snoc (k : Int) (r : List Int) (x : Nat) (hx : x < r.length) : small k (r.take (x + 1)) = small k (r.take x) ++ [decide (0 < r.getD x 0) && decide (r.getD x 0 < k)] := by
  rw [List.take_succ_eq_append_getElem hx, getD_of _ _ hx]; simp only [small, List.map_append, List.map_cons, List.map_nil]
theorem small_len (k : Int) (r : List Int) : (small k r).length = r.length := by simp [small]
theorem MineB.lower {w : World} {B B' T : Nat} {v : Value} {ll : Mk} (h : MineB w B T v ll) (hB : B' ≤ B) : MineB w B' T v ll := by
  obtain ⟨hT, hv, hs, ho, hr⟩ := h
  exact ⟨hT, hv, hs, ho.less hB, hr.1, fun i hi => ⟨(hr.2.1 i hi).1.less hB, (hr.2.1 i hi).2⟩, hr.2.2⟩
set_option maxHeartbeats 4000000 in
theorem sSmall_is (W : World) (t : Tb) (v : Value) (hv : IsR W v t) (k : Int) (m : Mk) (g : Bool) (hm : msmallI t k = m) (hg : tabOk t = g) (w : World) (hb : Below W.heap.size W w) :
    Calls Tryd.prog 67 #[v, .int .i64 k] w (OutMT m g w) := by
  have HG := Lib.hid hg
  have HM := Lib.hid hm
  have hv0 := hv.below hb
  clear hv hb
  obtain ⟨A, c, rfl, a1, a2, a3⟩ := hv0
  obtain ⟨q, hq⟩ : ∃ q, q = t.length := ⟨_, rfl⟩
  have hwb : Below w.heap.size w (w.alloc (.cells #[] TBS)) := (Below.refl _ _).alloc (Nat.le_refl _) _
  have HV := Lib.hid ((show IsR w (.slice A q c) t by rw [hq]; exact ⟨A, c, rfl, a1, a2, a3⟩).below hwb)
  have HQ := Lib.hid hq
  have HR := Lib.hid a3
  have HO0 := Lib.hid (show MineB (w.alloc (.cells #[] TBS)) w.heap.size (w.heap.size + 1) (.slice (some ⟨w.heap.size, 0, none⟩) 0 0) [] from mineB_new (Nat.le_refl _))
  have HB0 := Lib.hid hwb
  rw [← hq]
  clear a1 a2 a3 hg hm hq hwb
  go_enter Tryd.func67, Tryd.ntmps67
  go_wp2_with fail
  refine (sTab_is _ t _ HV.out g HG.out _ (Below.refl _ _)).mono ?_
  rintro e w1 ⟨rfl, b1⟩
  have HB1 := Lib.hid (HB0.out.trans (b1.mono HB0.out.size))
  have HO := Lib.hid (HO0.out.below b1)
  have hsz : (w.alloc (.cells #[] TBS)).heap.size = w.heap.size + 1 := by simp
  have hz1 : w.heap.size < w1.heap.size := by have h := b1.size; omega
  clear hsz
  clear b1
  cases g
  · have HE := Lib.hid (show m = [] by rw [← HM.out, msmallI, HG.out]; rfl)
    go_wp2
    go_ret2
    exact ⟨_, rfl, by rw [HE.out]; exact HO.out.up, HB1.out⟩
  have ht := tab_iff.1 HG.out
  have HE := Lib.hid (show m = msmall t k by rw [← HM.out, msmallI, if_pos HG.out])
  have hq4 : 1 ≤ q ∧ q ≤ 4 := by rw [HQ.out]; exact ⟨ht.h1, ht.h4⟩
  obtain ⟨d, hd⟩ : ∃ d, d = wd t := ⟨_, rfl⟩
  have hd4 : 1 ≤ d ∧ d ≤ 4 := by rw [hd]; exact ⟨ht.w1, ht.w4⟩
  have HLN := Lib.hid (show ∀ i, i < q → (t.getD i []).length = d from fun i hi => by rw [hd]; exact tab_lens HG.out (by rw [← HQ.out]; exact hi))
  clear ht hd
  go_wp2
  go_loopw [6, 7] (fun v i wr => ∃ x : Nat, x ≤ q ∧ i = .int .i64 x ∧ MineB wr w.heap.size wr.heap.size v (msmall (t.take x) k) ∧ Below w.heap.size w wr) (fun _ i _ => q - (intOf i).toNat)
  case atStart => exact ⟨0, Nat.zero_le _, rfl, HO.out.up, HB1.out⟩
  case round =>
    obtain ⟨x, hx, rfl, ho, hb⟩ := hrel
    have HOL := Lib.hid ho
    have HB5 := Lib.hid hb
    have hz5 := hb.size
    clear ho hb HO HO0 HB0 HB1
    by_cases hlt : x < q
    · have hxi : (x : Int) < (q : Int) := by omega
      have hxt : x < t.length := by rw [← HQ.out]; exact hlt
      have HT := Lib.hid (take_snocM t k x hxt)
      have hlen := HLN.out x hlt
      obtain ⟨b, o, A1, c1, hA, hbW, hc1, _, _, hr1⟩ := HR.out.at_ x hxt
      subst hA
      obtain ⟨row, hrow⟩ : ∃ row, t.getD x [] = row := ⟨_, rfl⟩
      rw [hrow] at HT hlen hc1 hr1
      rw [hlen] at hc1
      have HC1 := Lib.hid hc1
      have HR1 := Lib.hid hr1
      have HLEN := Lib.hid hlen
      have HL4 := Lib.hid (show (msmall (t.take x) k).length + 1 ≤ 1000000 by simp [msmall]; omega)
      clear hrow hc1 hr1 hlen hxt
      obtain ⟨wo, hwo⟩ : ∃ wo, wo = wr := ⟨_, rfl⟩
      subst hwo
      go_wp2
      go_loopw [8, 9] (fun v j wo' => ∃ y : Nat, y ≤ d ∧ j = .int .i64 y ∧ Own1 TBo wo' wo.heap.size v (bcells (small k (row.take y))) ∧ Below wo.heap.size wo wo') (fun _ j _ => d - (intOf j).toNat)
      case atStart => exact ⟨0, Nat.zero_le _, rfl, own1_new (Nat.le_refl _), (Below.refl _ _).alloc (Nat.le_refl _) _⟩
      case round =>
        obtain ⟨y, hy, rfl, hr, hb⟩ := hrel
        have HRO := Lib.hid hr
        have HBQ := Lib.hid hb
        have hzq := hb.size
        have hbw : Below w.heap.size w wr := HB5.out.trans (hb.mono hz5)
        have e1 := (hbw.cell (p := ⟨b, o + x, none⟩) hbW).trans HC1.out
        clear hr hb
        by_cases hyd : y < d
        · have hyi : (y : Int) < (d : Int) := by omega
          have hyr : y < row.length := by rw [HLEN.out]; exact hyd
          obtain ⟨b2, o2, hA2, hb2, hc2⟩ := HR1.out.int_ y hyr
          subst hA2
          have e2 := (hbw.cell (p := ⟨b2, o2 + y, none⟩) hb2).trans hc2
          have HSN := Lib.hid (small_snoc k row y hyr)
          have HLQ := Lib.hid (show (bcells (small k (row.take y))).length + 1 ≤ 1000000 by rw [bcells_len, small_len, List.length_take]; omega)
          obtain ⟨z, hz⟩ : ∃ z, row.getD y 0 = z := ⟨_, rfl⟩
          rw [hz] at e2 HSN
          have hbG : b < wr.heap.size := by omega
          have hb2G : b2 < wr.heap.size := by omega
          clear hz hc2 hyr hbw
          have hcase : (∃ f : Bool, (decide (0 < z) && decide (z < k)) = f ∧ ((0 < z ∧ z < k ∧ f = true) ∨ (0 < z ∧ ¬ z < k ∧ f = false) ∨ (¬ 0 < z ∧ f = false))) := by
            by_cases h0 : 0 < z
            · by_cases h1 : z < k
              · exact ⟨true, by simp [h0, h1], .inl ⟨h0, h1, rfl⟩⟩
              · exact ⟨false, by simp [h1], .inr (.inl ⟨h0, h1, rfl⟩)⟩
            · exact ⟨false, by simp [h0], .inr (.inr ⟨h0, rfl⟩)⟩
          obtain ⟨f, hf, hcase⟩ := hcase
          rw [hf] at HSN
          clear hf
          rcases hcase with ⟨h0, h1, rfl⟩ | ⟨h0, h1, rfl⟩ | ⟨h0, rfl⟩
          all_goals
            go_wp2_with (at_builtin
                         refine app1 one_BS rfl (.tmp 31) (.tmp 51) rfl wo.heap.size _ _ rfl (HRO.out.alloc _) (wr.heap.size + 1) (some ⟨wr.heap.size, 0, none⟩) 1 1 [.bool _] rfl rfl (row_lit wr #[.bool _] TBo) (by simp; rfl) HLQ.out (by simp; omega) ?_
                         intro v2 w2 ho2 hg2 _
                         have HO2 := Lib.hid ho2
                         have HB2 := Lib.hid (below_own1 (HBQ.out.alloc hzq _) (HRO.out.alloc _) hg2)
                         clear ho2 hg2)
            go_roundw
            case rel => exact ⟨y + 1, by omega, by go_num, by rw [HSN.out, bcells_app]; exact HO2.out, HB2.out⟩
            case measure => simp [intOf]; omega
        · have hyi : ¬ (y : Int) < (d : Int) := by omega
          have hyr : row.take y = row := List.take_of_length_le (by rw [HLEN.out]; omega)
          rw [hyr] at HRO
          have HOQ := Lib.hid (HOL.out.below HBQ.out)
          have HBW := Lib.hid hbw
          clear hyr hbw
          obtain ⟨A6, c6, hv6, _, _, _, _⟩ := HRO.out.form
          rw [bcells_len, small_len, HLEN.out] at hv6
          subst hv6
          have HRW := Lib.hid ((HRO.out.alloc (.cells #[.slice A6 d c6] TBS)).less hz5)
          have HFR := Lib.hid (show ∀ k, (Value.slice A6 d c6).ownBlock = some k → some k ≠ u6.ownBlock ∧ (wo.heap.size ≤ k ∨ k < w.heap.size) from fun k e => by
            have h1 := (HRO.out.ob k e).1
            exact ⟨fun e2 => by have := (HOL.out.ob k e2.symm).2; omega, .inl h1⟩)
          go_wp2_with (at_builtin
                       refine appMineB rfl (.tmp 53) (.tmp 55) rfl w.heap.size wo.heap.size u6 (msmall (t.take x) k) rfl (HOQ.out.alloc _) (wr.heap.size + 1) (some ⟨wr.heap.size, 0, none⟩) 1 (.slice A6 d c6) (small k row) rfl (row_lit wr #[.slice A6 d c6] TBS) w.heap.size (Nat.le_refl _) HRW.out HFR.out HL4.out (by simp; omega) ?_
                       intro v7 w7 ho7 hg7 _
                       have HB8 := Lib.hid (below_ownLB (HBW.out.alloc HBW.out.size _) (HOQ.out.own.alloc _) hg7)
                       have HO7 := Lib.hid ho7
                       clear ho7 hg7)
          go_roundw
          case rel => exact ⟨x + 1, by omega, by go_num, by rw [HT.out]; exact HO7.out, HB8.out⟩
          case measure => simp [intOf]; omega
    · have hxi : ¬ (x : Int) < (q : Int) := by omega
      have hxq : t.take x = t := List.take_of_length_le (by rw [← HQ.out]; omega)
      rw [hxq, ← HE.out] at HOL
      clear hxq
      go_wp2
      go_ret2
      exact ⟨_, rfl, HOL.out, HB5.out⟩
end Go.Proofs.YtobgceebolmfcaaDoor
