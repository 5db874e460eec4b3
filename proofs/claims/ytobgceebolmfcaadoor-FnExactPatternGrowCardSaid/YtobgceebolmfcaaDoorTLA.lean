/- The laws' helpers of chapter 11. The laws' helpers of chapter 11: masks compared. The laws' helpers of chapter 11: a mask turned. Tables and masks cut in two. The laws' helpers of chapter 13: a mask of one flag. -/
import Derived.Test.YtobgceebolmfcaaDoorTS7
import Derived.Test.YtobgceebolmfcaaDoorTLT
namespace Go.Proofs.YtobgceebolmfcaaDoor
open Go.RowKit
def OutM1 (m : Mk) (w : World) (e : Ending) (w' : World) : Prop := ∃ v, e = .returned v ∧ InM w' w.heap.size w'.heap.size v m ∧ Below w.heap.size w w'
theorem take_snocK (t : Mk) (k : Nat) (hk : k < t.length) : t.take (k + 1) = t.take k ++ [t.getD k []] := by
  rw [List.take_succ_eq_append_getElem hk, getD_of _ _ hk]
theorem qr_back {g : Value} {w : World} {e : Ending} {w' : World} (h : QR g w e w') : e = .returned g ∧ Below w.heap.size w w' := by
  obtain ⟨he, m, rfl⟩ := h
  exact ⟨he, ⟨rfl, rfl, rfl, Nat.le_refl _, fun _ _ => rfl⟩⟩
theorem sum_snocL (x : List Int) (k : Nat) (hk : k < x.length) : (x.take (k + 1)).sum = (x.take k).sum + x.getD k 0 := by
  rw [List.take_succ_eq_append_getElem hk, List.sum_append, getD_of _ _ hk]; simp
theorem sum_bdL : ∀ x : List Int, (∀ y ∈ x, 0 ≤ y ∧ y ≤ 1000000) → 0 ≤ x.sum ∧ x.sum ≤ 1000000 * (x.length : Int)
  | [], _ => by simp
  | a :: x, h => by
    have h1 := h a (by simp)
    have h2 := sum_bdL x fun y hy => h y (List.mem_cons_of_mem _ hy)
    rw [List.sum_cons, List.length_cons]
    omega
end Go.Proofs.YtobgceebolmfcaaDoor
namespace Go.Proofs.YtobgceebolmfcaaDoor
open Go.RowKit
set_option maxHeartbeats 2000000 in
theorem sameMask_at (ll : List (List Bool)) (A B : Option Addr) (n1 n2 c d : Nat) (h1 : n1 = ll.length) (h2 : n2 = ll.length) (hl : ll.length ≤ maxLen) (w : World) (ha : LB w w.heap.size A ll) (hb : LB w w.heap.size B ll) :
    Calls Tryd.prog 16 #[.slice A n1 c, .slice B n2 d] w (QR (.bool true) w) := by
  obtain rfl : n2 = n1 := by omega
  have H1 := Lib.hid h1
  have hl2 : n2 ≤ 2 ^ 63 - 1 := by rw [h1]; exact hl
  have HA := Lib.hid ha
  have HB := Lib.hid hb
  clear h1 h2 hl ha hb
  go_enter Tryd.func16, Tryd.ntmps16
  go_wp2
  go_loopw [5] (fun i wr => ∃ k m : Nat, k ≤ n2 ∧ i = .int .i64 k ∧ wr = w.drewN m) (fun i _ => n2 - (intOf i).toNat)
  case atStart => exact ⟨0, 0, Nat.zero_le _, rfl, rfl⟩
  case round =>
    obtain ⟨k, m, hk, rfl, hw⟩ := hrel
    have HW := Lib.hid hw; clear hw
    by_cases hlt : k < n2
    · have hki : (k : Int) < (n2 : Int) := by omega
      obtain ⟨b, o, Ai, ci, hA, _, c0, g1, g2, r0⟩ := HA.out.at_ k (by rw [← H1.out]; exact hlt)
      obtain ⟨b2, o2, Aj, cj, hB, _, c1, g3, g4, r1⟩ := HB.out.at_ k (by rw [← H1.out]; exact hlt)
      subst hA hB
      obtain ⟨x, hx⟩ : ∃ x, ll.getD k [] = x := ⟨_, rfl⟩
      rw [hx] at c0 c1 r0 r1 g1
      obtain ⟨nx, hnx⟩ : ∃ nx, x.length = nx := ⟨_, rfl⟩
      rw [hnx] at c0 c1 g1
      have hnx2 : nx ≤ 2 ^ 63 - 1 := Nat.le_trans g1 g2
      have HC0 := Lib.hid (show ∀ j, (w.drewN j).cell? ⟨b, o + k, none⟩ = some (.slice Ai nx ci) from fun j => c0)
      have HC1 := Lib.hid (show ∀ j, (w.drewN j).cell? ⟨b2, o2 + k, none⟩ = some (.slice Aj nx cj) from fun j => c1)
      have HR0 := Lib.hid r0
      have HR1 := Lib.hid r1
      have HNX := Lib.hid hnx
      clear g1 g2 g3 g4 c0 c1 r0 r1 hx hnx
      have c0' : wr.cell? ⟨b, o + k, none⟩ = some (.slice Ai nx ci) := by rw [HW.out]; exact HC0.out m
      have c1' : wr.cell? ⟨b2, o2 + k, none⟩ = some (.slice Aj nx cj) := by rw [HW.out]; exact HC1.out m
      go_wp2
      go_quiet (fail)
      go_wp2
      go_loopw [6] (fun j wr' => ∃ p m2 : Nat, p ≤ nx ∧ j = .int .i64 p ∧ wr' = w.drewN m2) (fun j _ => nx - (intOf j).toNat)
      case atStart => exact ⟨0, m + nq, Nat.zero_le _, rfl, by rw [HW.out, World.drewN_drewN]⟩
      case round =>
        obtain ⟨p, m2, hp, rfl, hw2⟩ := hrel
        clear c0' c1'
        have HW2 := Lib.hid hw2; clear hw2
        by_cases hpn : p < nx
        · have hpi : (p : Int) < (nx : Int) := by omega
          have c0' : wr.cell? ⟨b, o + k, none⟩ = some (.slice Ai nx ci) := by rw [HW2.out]; exact HC0.out m2
          have c1' : wr.cell? ⟨b2, o2 + k, none⟩ = some (.slice Aj nx cj) := by rw [HW2.out]; exact HC1.out m2
          obtain ⟨b3, o3, h3, _, e0⟩ := HR0.out.bool_ p (by rw [HNX.out]; exact hpn)
          obtain ⟨b4, o4, h4, _, e1⟩ := HR1.out.bool_ p (by rw [HNX.out]; exact hpn)
          subst h3 h4
          have e0' : wr.cell? ⟨b3, o3 + p, none⟩ = some (.bool (x.getD p false)) := by rw [HW2.out]; exact e0
          have e1' : wr.cell? ⟨b4, o4 + p, none⟩ = some (.bool (x.getD p false)) := by rw [HW2.out]; exact e1
          clear e0 e1
          generalize x.getD p false = y at *
          go_wp2
          go_quiet (fail)
          go_wp2
          go_roundw
          case rel => exact ⟨p + 1, m2 + nq, by omega, by go_num, by rw [HW2.out, World.drewN_drewN]⟩
          case measure => simp [intOf]; omega
        · have hpi : ¬ (p : Int) < (nx : Int) := by omega
          have c0' : wr.cell? ⟨b, o + k, none⟩ = some (.slice Ai nx ci) := by rw [HW2.out]; exact HC0.out m2
          go_wp2
          go_roundw
          case rel => exact ⟨k + 1, m2, by omega, by go_num, HW2.out⟩
          case measure => simp [intOf]; omega
    · have hki : ¬ (k : Int) < (n2 : Int) := by omega
      go_wp2
      go_ret
      exact ⟨rfl, m, HW.out⟩
theorem lMask_is (W : World) (l : List (List Bool)) (v : Value) (hv : IsM W v l) (u : Value) (hu : IsM W u l) (w : World) (hb : Below W.heap.size W w) :
    Calls Tryd.prog 16 #[v, u] w (Back (.bool true) W) := by
  obtain ⟨A, c, rfl, h1, h2, h3⟩ := hv.below hb
  obtain ⟨B, d, rfl, _, _, k3⟩ := hu.below hb
  refine (sameMask_at l A B l.length l.length c d rfl rfl (Nat.le_trans h1 h2) w h3 k3).mono ?_
  intro e w' h
  obtain ⟨he, hw⟩ := qr_back h
  exact ⟨he, hb.trans (hw.mono hb.size)⟩
end Go.Proofs.YtobgceebolmfcaaDoor
namespace Go.Proofs.YtobgceebolmfcaaDoor
open Go.RowKit
def colM (m : Mk) (j : Nat) : List Bool := m.map fun r => r.getD j false
def turnTk (m : Mk) (k : Nat) : Mk := (List.range k).map (colM m)
theorem turnTk_succ (m : Mk) (k : Nat) : turnTk m (k + 1) = turnTk m k ++ [colM m k] := by simp [turnTk, List.range_succ]
theorem mturn_tk (m : Mk) {d : Nat} (h1 : 1 ≤ m.length) (hd : ∀ r ∈ m, r.length = d) : mturn m = turnTk m d := by
  cases m with
  | nil => simp at h1
  | cons r m => simp only [mturn, List.headD_cons, turnTk, hd r (by simp)]; rfl
theorem colM_snoc (m : Mk) (j p : Nat) (hp : p < m.length) : colM (m.take (p + 1)) j = colM (m.take p) j ++ [(m.getD p []).getD j false] := by
  rw [take_snocK m p hp]; simp [colM]
end Go.Proofs.YtobgceebolmfcaaDoor
namespace Go.Proofs.YtobgceebolmfcaaDoor
open Go.RowKit
theorem LL.cut {w : World} {B : Nat} {A : Option Addr} {ll : List (List Int)} {c k : Nat} (h : LL w B A ll) (hk : k ≤ ll.length) (hc : ll.length ≤ c) : LL w B (if c = k then A else A.map (·.add (k * 1))) (ll.drop k) := by
  obtain ⟨hs, h0, h1, h2⟩ := h
  refine ⟨hs.drop k, by rw [List.length_drop, List.length_drop, h0], h1.cut1 (by omega) (by omega), fun i hi => ?_⟩
  rw [List.length_drop] at hi
  obtain ⟨Ai, ci, a1, a2, a3, a4⟩ := h2 (k + i) (by omega)
  have e : (ll.drop k).getD i [] = ll.getD (k + i) [] := by rw [List.getD_eq_getElem?_getD, List.getElem?_drop, List.getD_eq_getElem?_getD]
  rw [e]
  exact ⟨Ai, ci, by rw [List.getElem?_drop]; exact a1, a2, a3, a4⟩
theorem sliceTailLL (B : Option Addr) (n d k : Nat) (hk : k ≤ n) (hn : n ≤ d) : ∃ B2, (∀ w, (Instr.sliceAt TII (.slice B n d) (some (.int .i64 (k : Int))) none none).run Tryd.prog w = .ok (.slice B2 (n - k) (d - k)) w) ∧
    ∀ W Bd ll, ll.length = n → LL W Bd B ll → LL W Bd B2 (ll.drop k) := by
  refine ⟨if d = k then B else B.map (·.add (k * 1)), fun w => ?_, fun W Bd l hl hr => hr.cut (by omega) (by omega)⟩
  obtain ⟨i0, hi0, hz0, hs0, hs1⟩ := info_parts (P := Tryd.prog) (e := TI) (z := .slice none 0 0) (size := 1) (bytes := 24) (by kernel_rfl)
  have hu : Tryd.prog.underlying TII = some (.slice TI) := Tryd.underlying23
  have he : Tryd.prog.elem TII = TI := by simp [Program.elem, hu]
  rw [run_sliceAt_slice w TII _ _ _ _ (by rw [he]; exact hu), run_slice_l w TII B n d (by rw [he]; exact hu) .i64 (k : Int) (by omega) (by omega)]
  rw [he]
  simp [sizeOf, typeInfo, hi0, hs0, sliced, Result.andThen]
theorem LB.cut {w : World} {B : Nat} {A : Option Addr} {ll : List (List Bool)} {c k : Nat} (h : LB w B A ll) (hk : k ≤ ll.length) (hc : ll.length ≤ c) : LB w B (if c = k then A else A.map (·.add (k * 1))) (ll.drop k) := by
  obtain ⟨hs, h0, h1, h2⟩ := h
  refine ⟨hs.drop k, by rw [List.length_drop, List.length_drop, h0], h1.cut1 (by omega) (by omega), fun i hi => ?_⟩
  rw [List.length_drop] at hi
  obtain ⟨Ai, ci, a1, a2, a3, a4⟩ := h2 (k + i) (by omega)
  have e : (ll.drop k).getD i [] = ll.getD (k + i) [] := by rw [List.getD_eq_getElem?_getD, List.getElem?_drop, List.getD_eq_getElem?_getD]
  rw [e]
  exact ⟨Ai, ci, by rw [List.getElem?_drop]; exact a1, a2, a3, a4⟩
theorem sliceTailLB (B : Option Addr) (n d k : Nat) (hk : k ≤ n) (hn : n ≤ d) : ∃ B2, (∀ w, (Instr.sliceAt TBSS (.slice B n d) (some (.int .i64 (k : Int))) none none).run Tryd.prog w = .ok (.slice B2 (n - k) (d - k)) w) ∧
    ∀ W Bd ll, ll.length = n → LB W Bd B ll → LB W Bd B2 (ll.drop k) := by
  refine ⟨if d = k then B else B.map (·.add (k * 1)), fun w => ?_, fun W Bd l hl hr => hr.cut (by omega) (by omega)⟩
  obtain ⟨i0, hi0, hz0, hs0, hs1⟩ := info_parts (P := Tryd.prog) (e := TBS) (z := .slice none 0 0) (size := 1) (bytes := 24) (by kernel_rfl)
  have hu : Tryd.prog.underlying TBSS = some (.slice TBS) := Tryd.underlying24
  have he : Tryd.prog.elem TBSS = TBS := by simp [Program.elem, hu]
  rw [run_sliceAt_slice w TBSS _ _ _ _ (by rw [he]; exact hu), run_slice_l w TBSS B n d (by rw [he]; exact hu) .i64 (k : Int) (by omega) (by omega)]
  rw [he]
  simp [sizeOf, typeInfo, hi0, hs0, sliced, Result.andThen]
theorem mmany_bd {m : Mk} (hl : m.length ≤ 1000) (h : ∀ r ∈ m, r.length ≤ 1000) : mmany m ≤ 1000000 := by
  have key : ∀ m : Mk, (∀ r ∈ m, r.length ≤ 1000) → mmany m ≤ 1000 * m.length := fun m => by
    induction m with
    | nil => intro _; simp [mmany]
    | cons r m ih =>
      intro h
      have h1 := ih fun x hx => h x (List.mem_cons_of_mem _ hx)
      have h2 := cntB_le r
      have h3 := h r (by simp)
      simp only [mmany, List.map_cons, List.sum_cons, List.length_cons] at *
      omega
  have := key m h
  omega
theorem modN (m n : Nat) (h : 1 ≤ n) : ∃ k : Nat, (m : Int) % (n : Int) = k ∧ k < n := ⟨m % n, by omega, Nat.mod_lt m (by omega)⟩
end Go.Proofs.YtobgceebolmfcaaDoor
namespace Go.Proofs.YtobgceebolmfcaaDoor
open Go.RowKit
def allTk (d : Nat) (f : Bool) (k : Nat) : Mk := List.replicate k (List.replicate d f)
set_option maxHeartbeats 2000000 in
theorem lAll_is (W : World) (t : Tb) (v : Value) (hv : IsR W v t) (d : Nat) (hm : t.length ≤ 1000) (hd : ∀ r ∈ t, r.length = d) (hd6 : d ≤ 1000) (f : Bool) (res : Mk) (hres : allTk d f t.length = res) (w : World) (hb : Below W.heap.size W w) :
    Calls Tryd.prog 22 #[v, .bool f] w (OutM1 res w) := by
  have HT := Lib.hid hres
  obtain ⟨A, c, rfl, _, _, a3⟩ := hv.below hb
  obtain ⟨q, hq⟩ : ∃ q, q = t.length := ⟨_, rfl⟩
  have HQ := Lib.hid hq
  have HR := Lib.hid a3
  have HD := Lib.hid hd
  rw [← hq] at hm ⊢
  clear hv hb hres a3 hq hd
  go_enter Tryd.func22, Tryd.ntmps22
  go_wp2
  go_loopw [5, 6] (fun v i wr => ∃ k : Nat, k ≤ q ∧ i = .int .i64 k ∧ MineB wr w.heap.size wr.heap.size v (allTk d f k) ∧ Below w.heap.size w wr) (fun _ i _ => q - (intOf i).toNat)
  case atStart => exact ⟨0, Nat.zero_le _, rfl, (mineB_new (Nat.le_refl _)).up, (Below.refl _ _).alloc (Nat.le_refl _) _⟩
  case round =>
    obtain ⟨k, hk, rfl, ho, hb⟩ := hrel
    have HO := Lib.hid ho
    have HB := Lib.hid hb
    have hz := hb.size
    clear ho hb
    by_cases hlt : k < q
    · have hki : (k : Int) < (q : Int) := by omega
      obtain ⟨bA, oA, A1, c1, hA1, hb1, k1, y1, y2, r1⟩ := HR.out.at_ k (by rw [← HQ.out]; exact hlt)
      subst hA1
      have hln : (t.getD k []).length = d := HD.out _ (by rw [getD_of _ _ (by rw [← HQ.out]; exact hlt)]; exact List.getElem_mem _)
      rw [hln] at k1
      have K1 := Lib.hid k1
      clear k1 y1 y2 r1 hln
      obtain ⟨wo, hwo⟩ : ∃ wo, wo = wr := ⟨_, rfl⟩
      subst hwo
      go_wp2
      go_loopw [7, 8] (fun v j wr' => ∃ p : Nat, p ≤ d ∧ j = .int .i64 p ∧ Own1 TBo wr' wo.heap.size v (bcells (List.replicate p f)) ∧ Below wo.heap.size wo wr') (fun _ j _ => d - (intOf j).toNat)
      case atStart => exact ⟨0, Nat.zero_le _, rfl, own1_new (Nat.le_refl _), (Below.refl _ _).alloc (Nat.le_refl _) _⟩
      case round =>
        obtain ⟨p, hp, rfl, hro, hb⟩ := hrel
        have HRO := Lib.hid hro
        have HBQ := Lib.hid hb
        have hzq := hb.size
        have hbw : Below w.heap.size w wr := HB.out.trans (hb.mono hz)
        have e1 := (hbw.cell (p := ⟨bA, oA + k, none⟩) hb1).trans K1.out
        clear hro hb
        by_cases hpq : p < d
        · have hpi : (p : Int) < (d : Int) := by omega
          have HLQ := Lib.hid (show (bcells (List.replicate p f)).length + 1 ≤ 1000000 by rw [bcells_len, List.length_replicate]; omega)
          clear hbw
          go_wp2_with (at_builtin
                       refine app1 one_BS rfl (.tmp 26) (.tmp 28) rfl wo.heap.size _ _ rfl (HRO.out.alloc _) (wr.heap.size + 1) (some ⟨wr.heap.size, 0, none⟩) 1 1 [.bool f] rfl rfl (row_lit wr #[.bool f] TBo) (by simp; rfl) HLQ.out (by simp; omega) ?_
                       intro v2 w2 ho2 hg2 _
                       have HO2 := Lib.hid (show Own1 TBo w2 wo.heap.size v2 (bcells (List.replicate (p + 1) f)) by rw [List.replicate_succ', bcells_app]; exact ho2)
                       have HB2 := Lib.hid (below_own1 (HBQ.out.alloc hzq _) (HRO.out.alloc _) hg2)
                       clear ho2 hg2)
          go_roundw
          case rel => exact ⟨p + 1, by omega, by go_num, HO2.out, HB2.out⟩
          case measure => simp [intOf]; omega
        · have hpi : ¬ (p : Int) < (d : Int) := by omega
          have hpm : p = d := by omega
          rw [hpm] at HRO
          have HOQ := Lib.hid (HO.out.below HBQ.out)
          have HBW := Lib.hid hbw
          clear hpm hbw
          obtain ⟨A6, c6, hv6, x1, x2, x3, x4⟩ := HRO.out.form
          clear x1 x2 x3 x4
          rw [bcells_len, List.length_replicate] at hv6
          subst hv6
          have HRW := Lib.hid ((HRO.out.alloc (.cells #[.slice A6 d c6] TBS)).less hz)
          have HFR := Lib.hid (show ∀ k, (Value.slice A6 d c6).ownBlock = some k → some k ≠ u5.ownBlock ∧ (wo.heap.size ≤ k ∨ k < w.heap.size) from fun k e => by
            have h1 := (HRO.out.ob k e).1
            exact ⟨fun e2 => by have := (HO.out.ob k e2.symm).2; omega, .inl h1⟩)
          have HL4 := Lib.hid (show (allTk d f k).length + 1 ≤ 1000000 by simp [allTk]; omega)
          go_wp2_with (at_builtin
                       refine appMineB rfl (.tmp 30) (.tmp 32) rfl w.heap.size wo.heap.size u5 (allTk d f k) rfl (HOQ.out.alloc _) (wr.heap.size + 1) (some ⟨wr.heap.size, 0, none⟩) 1 (.slice A6 d c6) (List.replicate d f) rfl (row_lit wr #[.slice A6 d c6] TBS) w.heap.size (Nat.le_refl _) HRW.out HFR.out HL4.out (by simp; omega) ?_
                       intro v7 w7 ho7 hg7 _
                       have HB8 := Lib.hid (below_ownLB (HBW.out.alloc HBW.out.size _) (HOQ.out.own.alloc _) hg7)
                       have HO7 := Lib.hid (show MineB w7 w.heap.size w7.heap.size v7 (allTk d f (k + 1)) by rw [allTk, List.replicate_succ']; exact ho7)
                       clear ho7 hg7)
          go_roundw
          case rel => exact ⟨k + 1, by omega, by go_num, HO7.out, HB8.out⟩
          case measure => simp [intOf]; omega
    · have hki : ¬ (k : Int) < (q : Int) := by omega
      have hkd : k = q := by omega
      rw [hkd, HQ.out, HT.out] at HO
      clear hkd
      go_wp2
      go_ret
      exact ⟨_, rfl, HO.out, HB.out⟩
end Go.Proofs.YtobgceebolmfcaaDoor
