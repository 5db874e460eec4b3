import Derived.Test.YtbbgakbobefplaaT1
namespace Go.Proofs.Ytbbgakbobefplaa
open Go.RowKit
def okL (l : List Pn) : Bool := decide (l.length ≤ 40) && l.all okP
def band (x : Int) : Int := if 0 ≤ x ∧ x ≤ 999 then x / 100 else -1

theorem take_all (l : List Pn) (k : Nat) (hk : k < l.length) : (l.take (k + 1)).all okP = ((l.take k).all okP && okP l[k]) := by
  rw [List.take_succ_eq_append_getElem hk, List.all_append]; simp
theorem all_no (l : List Pn) (k : Nat) (hk : k < l.length) (h : okP l[k] = false) : l.all okP = false := by
  rw [List.all_eq_false]; exact ⟨l[k], List.getElem_mem hk, by simp [h]⟩

theorem okP_pay {p : Pn} (h : okP p = true) : 0 ≤ p.pay ∧ p.pay ≤ 999 := by
  simp [okP] at h; omega
theorem okL_all {l : List Pn} (h : okL l = true) : l.length ≤ 40 ∧ l.all okP = true := by
  simpa [okL] using h
theorem all_take {l : List Pn} (h : l.all okP = true) (k : Nat) : (l.take k).all okP = true := by
  rw [List.all_eq_true] at *; exact fun x hx => h x (List.mem_of_mem_take hx)

theorem valid_any (l : List Pn) (A : Option Addr) (c : Nat) (w : World) (hr : Row w w.heap.size A (pcells l)) (hl : l.length ≤ maxLen) :
    Calls Try.prog 18 #[.slice A l.length c] w fun e w' => e = .returned (.bool (okL l)) ∧ Below w.heap.size w w' := by
  unfold maxLen at hl
  by_cases h40 : 40 < l.length
  · go_enter Try.func18, Try.ntmps18
    go_wp2
    go_ret
    exact ⟨retb (by simp [okL]; omega), Below.refl _ _⟩
  · go_enter Try.func18, Try.ntmps18
    go_wp2
    go_loopw [10] (fun i wr => ∃ k : Nat, k ≤ l.length ∧ i = .int .i64 k ∧ Below w.heap.size w wr ∧ (l.take k).all okP = true) (fun i _ => l.length - (intOf i).toNat)
    case atStart => exact ⟨0, Nat.zero_le _, rfl, Below.refl _ _, rfl⟩
    case round =>
      obtain ⟨k, hk, rfl, hb, hall⟩ := hrel
      have HA := Lib.hid hall; clear hall
      by_cases hlt : k < l.length
      · obtain ⟨b, o, rfl, hbw, c0, c1, c2, c3⟩ := (hr.below hb (Nat.le_refl _)).at_ k hlt
        have hz := hb.size
        go_wp2_with fail
        refine (personValid_any l[k] _).mono ?_
        rintro e w' ⟨rfl, rfl⟩
        cases hv : okP l[k]
        · have hno := all_no l k hlt hv
          have HN := Lib.hid hno; clear hno
          go_wp2
          go_ret
          exact ⟨retb (by rw [okL, HN.out]; simp), (hb.alloc hz _).alloc (by simp; omega) _⟩
        · have ht := take_all l k hlt
          have HT := Lib.hid ht; clear ht
          go_wp2
          go_roundw
          case rel => exact ⟨k + 1, by omega, by go_num, (hb.alloc hz _).alloc (by simp; omega) _, by rw [HT.out, HA.out, hv]; rfl⟩
          case measure => simp [intOf]; omega
      · go_wp2
        go_ret
        exact ⟨retb (by have := HA.out; rw [List.take_of_length_le (by omega)] at this; simp [okL, this]; omega), hb⟩

theorem sValid_any (l : List Pn) (A : Option Addr) (c : Nat) (w : World) (hr : Row w w.heap.size A (pcells l)) (hl : l.length ≤ maxLen) :
    Calls Try.prog 50 #[.slice A l.length c] w fun e w' => e = .returned (.bool (okL l)) ∧ Below w.heap.size w w' := by
  unfold maxLen at hl
  go_enter Try.func50, Try.ntmps50
  go_wp2
  go_loopw [3] (fun i wr => ∃ k : Nat, k ≤ l.length ∧ i = .int .i64 k ∧ Below w.heap.size w wr ∧ (l.take k).all okP = true) (fun i _ => l.length - (intOf i).toNat)
  case atStart => exact ⟨0, Nat.zero_le _, rfl, Below.refl _ _, rfl⟩
  case round =>
    obtain ⟨k, hk, rfl, hb, hall⟩ := hrel
    have HA := Lib.hid hall; clear hall
    by_cases hlt : k < l.length
    · obtain ⟨b, o, rfl, hbw, c0, c1, c2, c3⟩ := (hr.below hb (Nat.le_refl _)).at_ k hlt
      have hz := hb.size
      go_wp2_with fail
      refine (sPersonValid_any l[k] _).mono ?_
      rintro e w' ⟨rfl, rfl⟩
      cases hv : okP l[k]
      · have hno := all_no l k hlt hv
        have HN := Lib.hid hno; clear hno
        go_wp2
        go_ret
        exact ⟨retb (by rw [okL, HN.out]; simp), (hb.alloc hz _)⟩
      · have ht := take_all l k hlt
        have HT := Lib.hid ht; clear ht
        go_wp2
        go_roundw
        case rel => exact ⟨k + 1, by omega, by go_num, (hb.alloc hz _), by rw [HT.out, HA.out, hv]; rfl⟩
        case measure => simp [intOf]; omega
    · go_wp2
      go_ret
      exact ⟨retb (by have := HA.out; rw [List.take_of_length_le (by omega)] at this; simp [okL, this]; omega), hb⟩
end Go.Proofs.Ytbbgakbobefplaa
