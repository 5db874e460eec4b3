/- The laws' helpers of chapter 11. The laws' helpers of chapter 11: masks compared. The laws' helpers of chapter 11: a mask turned. Tables and masks cut in two. The laws' helpers of chapter 13: a mask of one flag. -/
import Derived.Test.YtjgohakiodcjmaaTS7
import Derived.Test.YtjgohakiodcjmaaTLT
set_option maxRecDepth 100000
namespace Go.Proofs.Ytjgohakiodcjmaa
open Go.RowKit
def OutM1 (m : Mk) (w : World) (e : Ending) (w' : World) : Prop := ∃ v, e = .returned v ∧ InM w' w.heap.size w'.heap.size v m ∧ Below w.heap.size w w'
theorem take_snocK (t : Mk) (k : Nat) (hk : k < t.length) : t.take (k + 1) = t.take k ++ [t.getD k []] := by
  rw [List.take_succ_eq_append_getElem hk, getD_of _ _ hk]
theorem sameInts_at (x : List Int) (A B : Option Addr) (n1 n2 c d : Nat) (h1 : n1 = x.length) (h2 : n2 = x.length) (hl : x.length ≤ maxLen) (w : World) (ha : Row w w.heap.size A (icells x)) (hb : Row w w.heap.size B (icells x)) :
    Calls Try.prog 53 #[.slice A n1 c, .slice B n2 d] w (QR (.bool true) w) := by
  obtain rfl : n2 = n1 := by omega
  have H1 := Lib.hid h1
  have hl2 : n2 ≤ 2 ^ 63 - 1 := by rw [h1]; exact hl
  clear h1 h2 hl
  go_enter Try.func53, Try.ntmps53
  go_wp2
  go_loopw [5] (fun i wr => ∃ k m : Nat, k ≤ n2 ∧ i = .int .i64 k ∧ wr = w.drewN m) (fun i _ => n2 - (intOf i).toNat)
  case atStart => exact ⟨0, 0, Nat.zero_le _, rfl, rfl⟩
  case round =>
    obtain ⟨k, m, hk, rfl, hw⟩ := hrel
    have HW := Lib.hid hw; clear hw
    by_cases hlt : k < n2
    · have hki : (k : Int) < (n2 : Int) := by omega
      obtain ⟨b, o, rfl, _, c0⟩ := ha.int_ k (by rw [← H1.out]; exact hlt)
      obtain ⟨b2, o2, rfl, _, c1⟩ := hb.int_ k (by rw [← H1.out]; exact hlt)
      have c0' : wr.cell? ⟨b, o + k, none⟩ = some (.int .i64 (x.getD k 0)) := by rw [HW.out]; exact c0
      have c1' : wr.cell? ⟨b2, o2 + k, none⟩ = some (.int .i64 (x.getD k 0)) := by rw [HW.out]; exact c1
      clear c0 c1 ha hb
      generalize x.getD k 0 = y at *
      go_wp2
      go_quiet (fail)
      go_wp2
      go_roundw
      case rel => exact ⟨k + 1, m + nq, by omega, by go_num, by rw [HW.out, World.drewN_drewN]⟩
      case measure => simp [intOf]; omega
    · go_wp2
      go_ret
      exact ⟨rfl, m, HW.out⟩
theorem sameRows_at (ll : List (List Int)) (A B : Option Addr) (n1 n2 c d : Nat) (h1 : n1 = ll.length) (h2 : n2 = ll.length) (hl : ll.length ≤ maxLen) (w : World) (ha : LL w w.heap.size A ll) (hb : LL w w.heap.size B ll) :
    Calls Try.prog 28 #[.slice A n1 c, .slice B n2 d] w (QR (.bool true) w) := by
  obtain rfl : n2 = n1 := by omega
  have H1 := Lib.hid h1
  have hl2 : n2 ≤ 2 ^ 63 - 1 := by rw [h1]; exact hl
  clear h1 h2 hl
  go_enter Try.func28, Try.ntmps28
  go_wp2
  go_loopw [5] (fun i wr => ∃ k m : Nat, k ≤ n2 ∧ i = .int .i64 k ∧ wr = w.drewN m) (fun i _ => n2 - (intOf i).toNat)
  case atStart => exact ⟨0, 0, Nat.zero_le _, rfl, rfl⟩
  case round =>
    obtain ⟨k, m, hk, rfl, hw⟩ := hrel
    have HW := Lib.hid hw; clear hw
    by_cases hlt : k < n2
    · have hki : (k : Int) < (n2 : Int) := by omega
      obtain ⟨b, o, Ai, ci, rfl, _, c0, g1, g2, r0⟩ := ha.at_ k (by rw [← H1.out]; exact hlt)
      obtain ⟨b2, o2, Aj, cj, rfl, _, c1, g3, g4, r1⟩ := hb.at_ k (by rw [← H1.out]; exact hlt)
      have c0' : wr.cell? ⟨b, o + k, none⟩ = some (.slice Ai (ll.getD k []).length ci) := by rw [HW.out]; exact c0
      have c1' : wr.cell? ⟨b2, o2 + k, none⟩ = some (.slice Aj (ll.getD k []).length cj) := by rw [HW.out]; exact c1
      have r0' : Row wr wr.heap.size Ai (icells (ll.getD k [])) := by rw [HW.out]; exact r0
      have r1' : Row wr wr.heap.size Aj (icells (ll.getD k [])) := by rw [HW.out]; exact r1
      have HLN := Lib.hid (Nat.le_trans g1 g2)
      clear c0 c1 ha hb r0 r1 g1 g2 g3 g4
      generalize ll.getD k [] = x at *
      obtain ⟨nx, hnx⟩ : ∃ nx, x.length = nx := ⟨_, rfl⟩
      rw [hnx] at c0' c1'
      have HNX := Lib.hid hnx; clear hnx
      go_wp2
      go_quiet ((go_at_call 53; refine Calls.quiet_of (sameInts_at x _ _ nx nx _ _ HNX.out.symm HNX.out.symm HLN.out _ ?_ ?_); exact r0'; exact r1'))
      go_wp2
      go_roundw
      case rel => exact ⟨k + 1, m + nq, by omega, by go_num, by rw [HW.out, World.drewN_drewN]⟩
      case measure => simp [intOf]; omega
    · go_wp2
      go_ret
      exact ⟨rfl, m, HW.out⟩
theorem qr_back {g : Value} {w : World} {e : Ending} {w' : World} (h : QR g w e w') : e = .returned g ∧ Below w.heap.size w w' := by
  obtain ⟨he, m, rfl⟩ := h
  exact ⟨he, ⟨rfl, rfl, rfl, Nat.le_refl _, fun _ _ => rfl⟩⟩
theorem lRows_is (W : World) (l : List (List Int)) (v : Value) (hv : IsR W v l) (u : Value) (hu : IsR W u l) (w : World) (hb : Below W.heap.size W w) :
    Calls Try.prog 28 #[v, u] w (Back (.bool true) W) := by
  obtain ⟨A, c, rfl, h1, h2, h3⟩ := hv.below hb
  obtain ⟨B, d, rfl, _, _, k3⟩ := hu.below hb
  refine (sameRows_at l A B l.length l.length c d rfl rfl (Nat.le_trans h1 h2) w h3 k3).mono ?_
  intro e w' h
  obtain ⟨he, hw⟩ := qr_back h
  exact ⟨he, hb.trans (hw.mono hb.size)⟩
theorem lInts_is (W : World) (l : List Int) (v : Value) (hv : IsI W v l) (u : Value) (hu : IsI W u l) (w : World) (hb : Below W.heap.size W w) :
    Calls Try.prog 53 #[v, u] w (Back (.bool true) W) := by
  obtain ⟨A, c, rfl, h1, h2, h3⟩ := hv.below hb
  obtain ⟨B, d, rfl, _, _, k3⟩ := hu.below hb
  refine (sameInts_at l A B l.length l.length c d rfl rfl (Nat.le_trans h1 h2) w h3 k3).mono ?_
  intro e w' h
  obtain ⟨he, hw⟩ := qr_back h
  exact ⟨he, hb.trans (hw.mono hb.size)⟩
theorem sum_snocL (x : List Int) (k : Nat) (hk : k < x.length) : (x.take (k + 1)).sum = (x.take k).sum + x.getD k 0 := by
  rw [List.take_succ_eq_append_getElem hk, List.sum_append, getD_of _ _ hk]; simp
theorem sum_bdL : ∀ x : List Int, (∀ y ∈ x, 0 ≤ y ∧ y ≤ 1000000) → 0 ≤ x.sum ∧ x.sum ≤ 1000000 * (x.length : Int)
  | [], _ => by simp
  | a :: x, h => by
    have h1 := h a (by simp)
    have h2 := sum_bdL x fun y hy => h y (List.mem_cons_of_mem _ hy)
    rw [List.sum_cons, List.length_cons]
    omega
end Go.Proofs.Ytjgohakiodcjmaa
namespace Go.Proofs.Ytjgohakiodcjmaa
open Go.RowKit
end Go.Proofs.Ytjgohakiodcjmaa
namespace Go.Proofs.Ytjgohakiodcjmaa
open Go.RowKit
def colM (m : Mk) (j : Nat) : List Bool := m.map fun r => r.getD j false
def turnTk (m : Mk) (k : Nat) : Mk := (List.range k).map (colM m)
theorem turnTk_succ (m : Mk) (k : Nat) : turnTk m (k + 1) = turnTk m k ++ [colM m k] := by simp [turnTk, List.range_succ]
theorem mturn_tk (m : Mk) {d : Nat} (h1 : 1 ≤ m.length) (hd : ∀ r ∈ m, r.length = d) : mturn m = turnTk m d := by
  cases m with
  | nil => simp at h1
  | cons r m => simp only [mturn, List.headD_cons, turnTk, hd r (by simp)]; rfl
theorem colM_snoc (m : Mk) (j p : Nat) (hp : p < m.length) : colM (m.take (p + 1)) j = colM (m.take p) j ++ [(m.getD p []).getD j false] := by
  rw [take_snocK m p hp]; simp [colM]
end Go.Proofs.Ytjgohakiodcjmaa
namespace Go.Proofs.Ytjgohakiodcjmaa
open Go.RowKit
theorem LL.cut {w : World} {B : Nat} {A : Option Addr} {ll : List (List Int)} {c k : Nat} (h : LL w B A ll) (hk : k ≤ ll.length) (hc : ll.length ≤ c) : LL w B (if c = k then A else A.map (·.add (k * 1))) (ll.drop k) := by
  obtain ⟨hs, h0, h1, h2⟩ := h
  refine ⟨hs.drop k, by rw [List.length_drop, List.length_drop, h0], h1.cut1 (by omega) (by omega), fun i hi => ?_⟩
  rw [List.length_drop] at hi
  obtain ⟨Ai, ci, a1, a2, a3, a4⟩ := h2 (k + i) (by omega)
  have e : (ll.drop k).getD i [] = ll.getD (k + i) [] := by rw [List.getD_eq_getElem?_getD, List.getElem?_drop, List.getD_eq_getElem?_getD]
  rw [e]
  exact ⟨Ai, ci, by rw [List.getElem?_drop]; exact a1, a2, a3, a4⟩
theorem sliceTailLL (B : Option Addr) (n d k : Nat) (hk : k ≤ n) (hn : n ≤ d) : ∃ B2, (∀ w, (Instr.sliceAt TII (.slice B n d) (some (.int .i64 (k : Int))) none none).run Try.prog w = .ok (.slice B2 (n - k) (d - k)) w) ∧
    ∀ W Bd ll, ll.length = n → LL W Bd B ll → LL W Bd B2 (ll.drop k) := by
  refine ⟨if d = k then B else B.map (·.add (k * 1)), fun w => ?_, fun W Bd l hl hr => hr.cut (by omega) (by omega)⟩
  obtain ⟨i0, hi0, hz0, hs0, hs1⟩ := info_parts (P := Try.prog) (e := TI) (z := .slice none 0 0) (size := 1) (bytes := 24) (by kernel_rfl)
  have hu : Try.prog.underlying TII = some (.slice TI) := Try.underlying27
  have he : Try.prog.elem TII = TI := by simp [Program.elem, hu]
  rw [run_sliceAt_slice w TII _ _ _ _ (by rw [he]; exact hu), run_slice_l w TII B n d (by rw [he]; exact hu) .i64 (k : Int) (by omega) (by omega)]
  rw [he]
  simp [sizeOf, typeInfo, hi0, hs0, sliced, Result.andThen]
theorem LB.cut {w : World} {B : Nat} {A : Option Addr} {ll : List (List Bool)} {c k : Nat} (h : LB w B A ll) (hk : k ≤ ll.length) (hc : ll.length ≤ c) : LB w B (if c = k then A else A.map (·.add (k * 1))) (ll.drop k) := by
  obtain ⟨hs, h0, h1, h2⟩ := h
  refine ⟨hs.drop k, by rw [List.length_drop, List.length_drop, h0], h1.cut1 (by omega) (by omega), fun i hi => ?_⟩
  rw [List.length_drop] at hi
  obtain ⟨Ai, ci, a1, a2, a3, a4⟩ := h2 (k + i) (by omega)
  have e : (ll.drop k).getD i [] = ll.getD (k + i) [] := by rw [List.getD_eq_getElem?_getD, List.getElem?_drop, List.getD_eq_getElem?_getD]
  rw [e]
  exact ⟨Ai, ci, by rw [List.getElem?_drop]; exact a1, a2, a3, a4⟩
theorem sliceTailLB (B : Option Addr) (n d k : Nat) (hk : k ≤ n) (hn : n ≤ d) : ∃ B2, (∀ w, (Instr.sliceAt TBSS (.slice B n d) (some (.int .i64 (k : Int))) none none).run Try.prog w = .ok (.slice B2 (n - k) (d - k)) w) ∧
    ∀ W Bd ll, ll.length = n → LB W Bd B ll → LB W Bd B2 (ll.drop k) := by
  refine ⟨if d = k then B else B.map (·.add (k * 1)), fun w => ?_, fun W Bd l hl hr => hr.cut (by omega) (by omega)⟩
  obtain ⟨i0, hi0, hz0, hs0, hs1⟩ := info_parts (P := Try.prog) (e := TBS) (z := .slice none 0 0) (size := 1) (bytes := 24) (by kernel_rfl)
  have hu : Try.prog.underlying TBSS = some (.slice TBS) := Try.underlying74
  have he : Try.prog.elem TBSS = TBS := by simp [Program.elem, hu]
  rw [run_sliceAt_slice w TBSS _ _ _ _ (by rw [he]; exact hu), run_slice_l w TBSS B n d (by rw [he]; exact hu) .i64 (k : Int) (by omega) (by omega)]
  rw [he]
  simp [sizeOf, typeInfo, hi0, hs0, sliced, Result.andThen]
theorem mmany_bd {m : Mk} (hl : m.length ≤ 1000) (h : ∀ r ∈ m, r.length ≤ 1000) : mmany m ≤ 1000000 := by
  have key : ∀ m : Mk, (∀ r ∈ m, r.length ≤ 1000) → mmany m ≤ 1000 * m.length := fun m => by
    induction m with
    | nil => intro _; simp [mmany]
    | cons r m ih =>
      intro h
      have h1 := ih fun x hx => h x (List.mem_cons_of_mem _ hx)
      have h2 := cntB_le r
      have h3 := h r (by simp)
      simp only [mmany, List.map_cons, List.sum_cons, List.length_cons] at *
      omega
  have := key m h
  omega
theorem modN (m n : Nat) (h : 1 ≤ n) : ∃ k : Nat, (m : Int) % (n : Int) = k ∧ k < n := ⟨m % n, by omega, Nat.mod_lt m (by omega)⟩
end Go.Proofs.Ytjgohakiodcjmaa
namespace Go.Proofs.Ytjgohakiodcjmaa
open Go.RowKit
def allTk (d : Nat) (f : Bool) (k : Nat) : Mk := List.replicate k (List.replicate d f)
end Go.Proofs.Ytjgohakiodcjmaa
