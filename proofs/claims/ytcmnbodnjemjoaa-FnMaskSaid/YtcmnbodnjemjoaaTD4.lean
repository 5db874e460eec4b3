/- The drawing of a mask. -/
import Derived.Test.YtcmnbodnjemjoaaTD3
import Derived.Test.YtcmnbodnjemjoaaMW
namespace Go.Proofs.Ytcmnbodnjemjoaa
open Go.RowKit
theorem MineB.grown {w w' : World} {B T R : Nat} {v : Value} {ll : List (List Bool)} (h : MineB w B T v ll) (hg : w.grownBy w' (some R)) (hR : R < B) : MineB w' B T v ll :=
  h.same hg.size fun k hB hT => hg.block k (Nat.lt_of_lt_of_le hT h.1) (fun e => by injection e; omega)
theorem Mine.heads {w : World} {B T : Nat} {v : Value} {t : List (List Int)} (h : Mine w B T v t) (h0 : 0 < t.length) :
    ∃ g c, v = .slice (some ⟨g, 0, none⟩) t.length c ∧ B ≤ g ∧ g < T ∧ ∀ k, k < t.length → ∃ A d, w.cell? ⟨g, k, none⟩ = some (.slice A (t.getD k []).length d) := by
  obtain ⟨hT, hv, hs, ho, hr⟩ := h
  have hl := hr.1
  obtain ⟨g, c, rfl⟩ := ho.slice (by omega)
  refine ⟨g, c, by rw [hl], (ho.ob g rfl).1, hv g rfl, fun k hk => ?_⟩
  obtain ⟨A, d, hA, _, _, _, _⟩ := (hr.2.1 k hk).1.form
  rw [icells_len] at hA
  exact ⟨A, d, by rw [(ho.cellAt k (by omega)).1, getD_at hs nilS (by omega), hA]⟩
theorem row_lit2 (w : World) (o : Obj) (cs : Array Value) (T : TypeId) : Row ((w.alloc o).alloc (.cells cs T)) (w.heap.size + 2) (some ⟨w.heap.size + 1, 0, none⟩) cs.toList := by
  have h := row_lit (w.alloc o) cs T
  have e : (w.alloc o).heap.size = w.heap.size + 1 := by simp
  rw [e] at h; exact h
def MaskDrawn (R q : Nat) (w : World) (e : Ending) (w' : World) : Prop :=
  ∃ v m, e = .returned v ∧ MineB w' w.heap.size w'.heap.size v m ∧ m.length ≤ 5 ∧ (∀ r ∈ m, r.length ≤ 4) ∧ RdN w' R (q + 24) ∧ w.grownBy w' (some R)
set_option maxHeartbeats 4000000 in
theorem mask_any (R q : Nat) (hq : q + 24 < 1000000) (t : List (List Int)) (v : Value) (B T : Nat) (w : World) (ho : Mine w B T v t) (hRB : R < B) (hl : t.length ≤ 4) (hrow : ∀ r ∈ t, r.length ≤ 4) (hr : RdN w R q) :
    Calls Try.prog 55 #[.pointer (some ⟨R, 0, none⟩), v] w (MaskDrawn R q w) := by
  have hR := hr.lt
  obtain ⟨A, c, hv, _, _, _⟩ := ho.is
  subst hv
  have HT := Lib.hid ho
  have HRW := Lib.hid hrow
  obtain ⟨n, hn⟩ : ∃ n, n = t.length := ⟨_, rfl⟩
  rw [← hn] at hl HT ⊢
  have HN := Lib.hid hn
  have HRA := Lib.hid (hr.alloc (.cells #[] TBS))
  clear ho hrow hr hn
  go_enter Try.func55, Try.ntmps55
  go_wp2_with fail
  refine (pick_any 3 (by omega) (by omega) R q (by omega) _ HRA.out).mono ?_
  rintro e w1 ⟨y, rfl, y0, y1, hr1, hg1⟩
  have HO := Lib.hid ((mineB_new (w := w) (B := w.heap.size) (Nat.le_refl _)).grown hg1 hR)
  have HG := Lib.hid (grown_trans (World.grownBy_alloc w _ (some R)) hg1)
  have HR := Lib.hid hr1
  clear hr1 hg1 HRA
  go_wp2
  go_loopw [5, 7] (fun mv i wr => ∃ (k : Nat) (m : List (List Bool)), k ≤ n ∧ i = .int .i64 k ∧ m.length = k ∧ (∀ r ∈ m, r.length ≤ 4) ∧ MineB wr w.heap.size wr.heap.size mv m ∧ RdN wr R (q + 1 + 4 * k) ∧ w.grownBy wr (some R)) (fun _ i _ => n - (intOf i).toNat)
  case atStart => exact ⟨0, [], Nat.zero_le _, rfl, rfl, by simp, HO.out.up, HR.out, HG.out⟩
  case round =>
    obtain ⟨k, m, hk, rfl, hmk, hmr, ho, hrd, hgr⟩ := hrel
    clear HO HR HG
    have HO := Lib.hid ho
    have HG := Lib.hid hgr
    have HM := Lib.hid hmr
    have hzr := hgr.size
    clear ho hgr hmr
    by_cases hlt : k < n
    · have hki : (k : Int) < (n : Int) := by omega
      have hkt : k < t.length := by rw [← HN.out]; exact hlt
      obtain ⟨g, c', hv', hgB, hgT, hcell⟩ := HT.out.heads (by omega)
      obtain ⟨Ak, dk, hck⟩ := hcell k hkt
      injection hv' with hv1 hv2 hv3
      subst hv1
      obtain ⟨d, hd⟩ : ∃ d, d = (t.getD k []).length := ⟨_, rfl⟩
      rw [← hd] at hck
      have hd4 : d ≤ 4 := by
        rw [hd, List.getD_eq_getElem?_getD, List.getElem?_eq_getElem hkt]; exact HRW.out _ (List.getElem_mem _)
      have HCK := Lib.hid hck
      have hTw := HT.out.1
      have hgR : g ≠ R := by omega
      clear hv2 hv3 hcell hck hd
      obtain ⟨wo, hwo⟩ : ∃ wo, wo = wr := ⟨_, rfl⟩
      subst hwo
      go_wp2
      go_loopw [8, 9] (fun rv j wr' => ∃ (p : Nat) (row : List Bool), p ≤ d ∧ j = .int .i64 p ∧ row.length = p ∧ Own1 TBo wr' wo.heap.size rv (bcells row) ∧ RdN wr' R (q + 1 + 4 * k + p) ∧ wo.grownBy wr' (some R)) (fun _ j _ => d - (intOf j).toNat)
      case atStart => exact ⟨0, [], Nat.zero_le _, rfl, rfl, own1_new (Nat.le_refl _), hrd.alloc _, World.grownBy_alloc wo _ (some R)⟩
      case round =>
        obtain ⟨p, row, hp, rfl, hrp, hro, hrd2, hgr⟩ := hrel
        have HRO := Lib.hid hro
        have HGQ := Lib.hid hgr
        have e1 := (cell_heap ((grown_trans HG.out hgr).block g (by omega) (fun e => by injection e; omega)) k).trans HCK.out
        have hzq := hgr.size
        clear hro hgr hrd
        by_cases hpd : p < d
        · have hpi : (p : Int) < (d : Int) := by omega
          go_wp2_with fail
          refine (pick_any 3 (by omega) (by omega) R (q + 1 + 4 * k + p) (by omega) _ hrd2).mono ?_
          rintro e w7 ⟨z, rfl, z0, z1, hr7, hg7⟩
          have HRO7 := Lib.hid (HRO.out.kept hg7 (fun b e => by have := (HRO.out.ob b e).1; intro e2; injection e2; omega))
          have HG7 := Lib.hid (grown_trans HGQ.out hg7)
          have hz7 := HG7.out.size
          have HLQ := Lib.hid (show (bcells row).length + 1 ≤ 1000000 by rw [bcells_len]; omega)
          clear hg7 hrd2 e1
          obtain ⟨f, hf⟩ : ∃ f, decide (z < 1 + y) = f := ⟨_, rfl⟩
          have HF := Lib.hid hf
          go_wp2_with (at_builtin
                       go_loud (refine app1 one_BS rfl (.tmp 30) (.tmp 35) rfl wo.heap.size _ _ rfl (HRO7.out.alloc _) (w7.heap.size + 1) (some ⟨w7.heap.size, 0, none⟩) 1 1 [.bool f] rfl rfl (row_lit w7 #[.bool f] TBo) (by simp; rfl) HLQ.out (by simp; omega) ?_)
                       intro v2 w2 ho2 hg2 _
                       go_loud (have HO2 := Lib.hid ho2)
                       go_loud (have HG2 := Lib.hid (grown_new (grown_alloc HG7.out (.cells #[.bool f] TBo)) hg2 (fun b e => ((HRO7.out.ob b e).1))))
                       go_loud (have HR2 := Lib.hid (((hr7.alloc (.cells #[.bool f] TBo)).grown hg2 (fun b e => by have := (HRO7.out.ob b e).1; omega)).more (q' := q + 1 + 4 * k + (p + 1)) (by omega)))
                       clear ho2 hg2)
          go_roundw
          case rel => exact ⟨p + 1, row ++ [f], by omega, by go_num, by simp; omega, by rw [bcells_app]; exact HO2.out, HR2.out, HG2.out⟩
          case measure => simp [intOf]; omega
        · have hpi : ¬ (p : Int) < (d : Int) := by omega
          have HOQ := Lib.hid (HO.out.grown HGQ.out hR)
          have HG8 := Lib.hid (grown_trans HG.out HGQ.out)
          obtain ⟨A6, c6, hv6, _, _, _, _⟩ := HRO.out.form
          rw [bcells_len, hrp] at hv6
          subst hv6
          have HRW2 := Lib.hid ((HRO.out.alloc (.cells #[.slice A6 p c6] TBS)).less hzr)
          have HFR := Lib.hid (show ∀ k, (Value.slice A6 p c6).ownBlock = some k → some k ≠ u5.ownBlock ∧ (wo.heap.size ≤ k ∨ k < w.heap.size) from fun k e => by
            have h1 := (HRO.out.ob k e).1
            exact ⟨fun e2 => by have := (HO.out.ob k e2.symm).2; omega, .inl h1⟩)
          have hml : m.length + 1 ≤ 1000000 := by omega
          go_wp2_with (at_builtin
                       go_loud (refine appMineB rfl (.tmp 37) (.tmp 39) rfl w.heap.size wo.heap.size u5 m rfl (HOQ.out.alloc _) (wr.heap.size + 1) (some ⟨wr.heap.size, 0, none⟩) 1 (.slice A6 p c6) row rfl (row_lit wr #[.slice A6 p c6] TBS) w.heap.size (Nat.le_refl _) HRW2.out HFR.out hml (by simp; omega) ?_)
                       intro v7 w7 ho7 hg7 _
                       go_loud (have HO7 := Lib.hid ho7)
                       go_loud (have HG7 := Lib.hid (grown_new (grown_alloc HG8.out (.cells #[.slice A6 p c6] TBS)) hg7 (fun b e => ((HOQ.out.ob b e).1))))
                       go_loud (have HR7 := Lib.hid (((hrd2.alloc (.cells #[.slice A6 p c6] TBS)).grown hg7 (fun b e => by have := (HOQ.out.ob b e).1; omega)).more (q' := q + 1 + 4 * (k + 1)) (by omega)))
                       clear ho7 hg7)
          go_roundw
          case rel => exact ⟨k + 1, m ++ [row], by omega, by go_num, by simp; omega, fun r hr => by
            rcases List.mem_append.1 hr with h | h
            · exact HM.out r h
            · simp at h; rw [h]; omega, HO7.out, HR7.out, HG7.out⟩
          case measure => simp [intOf]; omega
    · have hki : ¬ (k : Int) < (n : Int) := by omega
      go_wp2_with fail
      refine (pick_any 30 (by omega) (by omega) R (q + 1 + 4 * k) (by omega) _ hrd).mono ?_
      rintro e W ⟨x, rfl, x0, x1, hr2, hg2⟩
      have HO2 := Lib.hid (HO.out.grown hg2 hR)
      have HG2 := Lib.hid (grown_trans HG.out hg2)
      have hz2 := hg2.size
      have hrW := hr2.more (q' := q + 24) (by omega)
      clear hg2 hr2 hrd HO HG
      rcases (show x = 0 ∨ x ≠ 0 by omega) with hx | hx
      · subst hx
        have ho1 : Own1 TBo (W.alloc (.cells #[.bool true] TBo)) (W.heap.size) (.slice (some ⟨W.heap.size, 0, none⟩) 1 1) (bcells [true]) := own1_lit (w := W) (T := TBo) #[.bool true] (Nat.le_refl _) (by simp)
        have HRW2 := Lib.hid ((ho1.alloc (.cells #[.slice (some ⟨W.heap.size, 0, none⟩) 1 1] TBS)).less (Nat.le_trans hzr hz2))
        have HFR := Lib.hid (show ∀ k, (Value.slice (some ⟨W.heap.size, 0, none⟩) 1 1).ownBlock = some k → some k ≠ u5.ownBlock ∧ (wr.heap.size ≤ k ∨ k < w.heap.size) from fun k e => by
          have e2 : some W.heap.size = some k := e
          injection e2 with e2
          exact ⟨fun e3 => by have := (HO2.out.ob k e3.symm).2; omega, .inl (by omega)⟩)
        have hml : m.length + 1 ≤ 1000000 := by omega
        clear ho1
        go_wp2_with (at_builtin
                     go_loud (refine appMineB rfl (.tmp 44) (.tmp 46) rfl w.heap.size wr.heap.size u5 m rfl ((HO2.out.alloc _).alloc _) (W.heap.size + 2) (some ⟨W.heap.size + 1, 0, none⟩) 1 (.slice (some ⟨W.heap.size, 0, none⟩) 1 1) [true] rfl (row_lit2 W _ #[.slice (some ⟨W.heap.size, 0, none⟩) 1 1] TBS) w.heap.size (Nat.le_refl _) HRW2.out HFR.out hml (by simp; omega) ?_)
                     intro v7 w7 ho7 hg7 _
                     go_loud (have HO7 := Lib.hid ho7)
                     go_loud (have HG7 := Lib.hid (grown_new (grown_alloc (grown_alloc HG2.out _) _) hg7 (fun b e => ((HO2.out.ob b e).1))))
                     go_loud (have HR7 := Lib.hid (((hrW.alloc _).alloc _).grown hg7 (fun b e => by have := (HO2.out.ob b e).1; omega)))
                     clear ho7 hg7)
        go_ret
        exact ⟨v7, m ++ [[true]], rfl, HO7.out, by simp; omega, fun r hr => by
            rcases List.mem_append.1 hr with h | h
            · exact HM.out r h
            · simp at h; rw [h]; simp, HR7.out, HG7.out⟩
      · go_wp2
        go_ret
        exact ⟨_, m, rfl, HO2.out.up, by omega, HM.out, hrW, HG2.out⟩
end Go.Proofs.Ytcmnbodnjemjoaa
