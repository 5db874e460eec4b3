/- Contributions: a list kept in a heap, and taken out of it. -/
import Derived.Test.YtfaffpfjgipifaaQP
namespace Go.Proofs.Ytfaffpfjgipifaa
open Go.RowKit
/-- A list is valid contributions. -/
def pOk (l : List Int) : Bool := decide (l.length ≤ 20) && l.all fun x => in3 x 0 100000
theorem pOk_parts {l : List Int} : pOk l = true ↔ l.length ≤ 20 ∧ ∀ x ∈ l, 0 ≤ x ∧ x ≤ 100000 := by
  simp only [pOk, Bool.and_eq_true, decide_eq_true_eq, List.all_eq_true, in3_parts]
theorem pOk_no {l : List Int} {k : Nat} (hk : k < l.length) (h : ¬ (0 ≤ l.getD k 0 ∧ l.getD k 0 ≤ 100000)) : pOk l = false := by
  rw [Bool.eq_false_iff]; intro h2
  have := (pOk_parts.1 h2).2 l[k] (List.getElem_mem hk)
  rw [List.getD_eq_getElem?_getD, List.getElem?_eq_getElem hk] at h; exact h this
theorem pOk_long {l : List Int} (h : 20 < l.length) : pOk l = false := by simp [pOk]; intro h2; omega
def Same (v : Value) (w : World) (e : Ending) (w' : World) : Prop := e = .returned v ∧ w = w'
theorem all_take_snoc (l : List Int) (k : Nat) (hk : k < l.length) (P : Int → Prop) (h : ∀ x ∈ l.take k, P x) (h2 : P (l.getD k 0)) : ∀ x ∈ l.take (k + 1), P x := by
  rw [List.take_succ_eq_append_getElem hk]
  rw [List.getD_eq_getElem?_getD, List.getElem?_eq_getElem hk] at h2
  intro x hx
  rcases List.mem_append.1 hx with hx | hx
  · exact h x hx
  · simp at hx; subst hx; exact h2
set_option maxHeartbeats 1000000 in
theorem iPV_any (l : List Int) (v : Value) (w : World) (hv : IsI w v l) (g : Bool) (hg : pOk l = g) : Calls Try.prog 23 #[v] w (Same (.bool g) w) := by
  obtain ⟨A, c, rfl, a1, a2, a3⟩ := hv
  have HG := Lib.hid hg
  have HR := Lib.hid a3
  obtain ⟨q, hq⟩ : ∃ q, q = l.length := ⟨_, rfl⟩
  have HQ := Lib.hid hq
  have hq9 : q ≤ 2 ^ 63 - 1 := by have : maxLen = 2 ^ 63 - 1 := rfl; omega
  rw [← hq]
  clear hg a1 a2 a3 hq
  by_cases h20 : 20 < q
  · have h20' : (20 : Int) < (q : Int) := by omega
    go_enter Try.func23, Try.ntmps23
    go_wp2
    go_ret
    exact ⟨retb (by rw [← HG.out, pOk_long (by rw [← HQ.out]; exact h20)]), rfl⟩
  · have h20' : ¬ (20 : Int) < (q : Int) := by omega
    go_enter Try.func23, Try.ntmps23
    go_wp2
    go_loopw [10] (fun i wr => ∃ k : Nat, k ≤ q ∧ i = .int .i64 k ∧ wr = w ∧ ∀ x ∈ l.take k, 0 ≤ x ∧ x ≤ 100000) (fun i _ => q - (intOf i).toNat)
    case atStart => exact ⟨0, Nat.zero_le _, rfl, rfl, by simp⟩
    case round =>
      obtain ⟨k, hk, rfl, rfl, hall⟩ := hrel
      have HA := Lib.hid hall
      clear hall
      by_cases hlt : k < q
      · have hki : (k : Int) < (q : Int) := by omega
        obtain ⟨b, o, rfl, _, c0⟩ := HR.out.int_ k (by rw [← HQ.out]; exact hlt)
        obtain ⟨x, hx⟩ : ∃ x, l.getD k 0 = x := ⟨_, rfl⟩
        rw [hx] at c0
        have HX := Lib.hid hx
        clear hx
        by_cases h0 : x < 0
        · go_wp2
          go_ret
          exact ⟨retb (by rw [← HG.out, pOk_no (k := k) (by rw [← HQ.out]; exact hlt) (by rw [HX.out]; omega)]), rfl⟩
        · by_cases h1 : 100000 < x
          · go_wp2
            go_ret
            exact ⟨retb (by rw [← HG.out, pOk_no (k := k) (by rw [← HQ.out]; exact hlt) (by rw [HX.out]; omega)]), rfl⟩
          · go_wp2
            go_roundw
            case rel => exact ⟨k + 1, by omega, by go_num, trivial, all_take_snoc l k (by rw [← HQ.out]; exact hlt) _ HA.out (by rw [HX.out]; omega)⟩
            case measure => simp [intOf]; omega
      · go_wp2
        go_ret
        refine ⟨retb ?_, rfl⟩
        rw [← HG.out]; symm
        refine pOk_parts.2 ⟨by rw [← HQ.out]; omega, fun x hx => HA.out x ?_⟩
        rw [List.take_of_length_le (by rw [← HQ.out]; omega)]; exact hx
/-- Contributions in a heap of one's own. -/
def Kept (D : List Int) (w : World) (e : Ending) (w' : World) : Prop := ∃ p, e = .returned (.tuple #[pt p, .bool true]) ∧ Below w.heap.size w w' ∧ HS w' w.heap.size w'.heap.size p D
theorem new_heap (w : World) : HS ((w.alloc (.cells #[] TN)).alloc (.cells #[.slice (some ⟨w.heap.size, 0, none⟩) 0 0] TH)) w.heap.size (w.heap.size + 1 + 1) (w.heap.size + 1) [] := by
  refine ⟨_, [], ⟨?_, by omega, (own1_new (Nat.le_refl _)).alloc _, ?_, by omega, ?_, by simp⟩, heapN_nil, ds_nil⟩
  · have h := heap_alloc_new (w.alloc (.cells #[] TN)) (.cells #[.slice (some ⟨w.heap.size, 0, none⟩) 0 0] TH)
    rw [World.size_alloc] at h; exact h
  · intro e; have e2 := Option.some.inj (show some w.heap.size = some (w.heap.size + 1) from e); omega
  · intro k e; have e2 := Option.some.inj (show some w.heap.size = some k from e); omega
theorem ds_snoc (l : List Int) (k : Nat) (hk : k < l.length) (x : Int) (hx : l.getD k 0 = x) : ds (x :: ds (l.take k)) = ds (l.take (k + 1)) := by
  rw [List.getD_eq_getElem?_getD, List.getElem?_eq_getElem hk] at hx
  rw [List.take_succ_eq_append_getElem hk]
  refine ds_congr ((List.Perm.cons x (ds_perm _)).trans ?_)
  rw [← hx]; exact (List.perm_append_singleton _ _).symm
theorem HS.upw {w : World} {B T p : Nat} {D : List Int} (h : HS w B T p D) : HS w B w.heap.size p D := by
  obtain ⟨v, a, h1, h2, h3⟩ := h
  exact ⟨v, a, h1.up, h2, h3⟩
set_option maxHeartbeats 2000000 in
theorem keep_yes (l : List Int) (v : Value) (w : World) (hv : IsI w v l) (hok : pOk l = true) : Calls Try.prog 33 #[v] w (Kept (ds l) w) := by
  have HV := Lib.hid hv
  have hl := (pOk_parts.1 hok).1
  have HOK := Lib.hid hok
  obtain ⟨A, c, rfl, a1, a2, a3⟩ := hv
  have HR := Lib.hid a3
  obtain ⟨q, hq⟩ : ∃ q, q = l.length := ⟨_, rfl⟩
  have HQ := Lib.hid hq
  have hq9 : q ≤ 20 := by omega
  rw [← hq] at HV ⊢
  have HL20 := Lib.hid hl
  clear a1 a2 a3 hq hl hok
  go_enter Try.func33, Try.ntmps33
  go_wp2_with (first
    | (go_at_call 23; (with_reducible refine (iPV_any l _ _ HV.out true HOK.out).mono ?_); rintro e w' ⟨rfl, rfl⟩))
  go_loopw [14] (fun i wr => ∃ k : Nat, k ≤ q ∧ i = .int .i64 k ∧ Below w.heap.size w wr ∧ HS wr w.heap.size wr.heap.size (w.heap.size + 1) (ds (l.take k))) (fun i _ => q - (intOf i).toNat)
  case atStart => exact ⟨0, Nat.zero_le _, rfl, ((Below.refl _ _).alloc (Nat.le_refl _) _).alloc (by simp) _, by rw [List.take_zero, ds_nil]; exact (new_heap w).upw⟩
  case round =>
    obtain ⟨k, hk, rfl, hb, hs⟩ := hrel
    have HB := Lib.hid hb
    have HS1 := Lib.hid hs
    have hz := hb.size
    clear hb hs
    by_cases hlt : k < q
    · have hki : (k : Int) < (q : Int) := by omega
      obtain ⟨b, o, rfl, hbw, c0⟩ := HR.out.int_ k (by rw [← HQ.out]; exact hlt)
      obtain ⟨x, hx⟩ : ∃ x, l.getD k 0 = x := ⟨_, rfl⟩
      rw [hx] at c0
      have HX := Lib.hid hx
      have c1 : wr.cell? ⟨b, o + k, none⟩ = some (.int .i64 x) := (HB.out.cell (p := ⟨b, o + k, none⟩) hbw).trans c0
      clear hx c0
      go_wp2_with (first
        | (go_at_call 38; (with_reducible refine (hpush_any HS1.out (by have := HL20.out; rw [ds_len, List.length_take]; omega) hz x).mono ?_); rintro e w2 ⟨rfl, hb2, hs2⟩
           rw [ds_snoc l k (by rw [← HQ.out]; exact hlt) x HX.out] at hs2
           have HB2 := Lib.hid hb2
           have HS2 := Lib.hid hs2
           clear hb2 hs2))
      go_roundw
      case rel => exact ⟨k + 1, by omega, by go_num, HB.out.trans HB2.out, HS2.out⟩
      case measure => simp [intOf]; omega
    · go_wp2
      go_ret2
      refine ⟨_, rfl, HB.out, ?_⟩
      have := HS1.out
      rwa [List.take_of_length_le (by rw [← HQ.out]; omega)] at this
theorem keep_no (l : List Int) (v : Value) (w : World) (hv : IsI w v l) (hok : pOk l = false) : Calls Try.prog 33 #[v] w (Same (.tuple #[.pointer none, .bool false]) w) := by
  have HV := Lib.hid hv
  have HOK := Lib.hid hok
  clear hv hok
  go_enter Try.func33, Try.ntmps33
  go_wp2_with (first
    | (go_at_call 23; (with_reducible refine (iPV_any l _ _ HV.out false HOK.out).mono ?_); rintro e w' ⟨rfl, rfl⟩))
  go_ret2
  exact ⟨rfl, rfl⟩
end Go.Proofs.Ytfaffpfjgipifaa
