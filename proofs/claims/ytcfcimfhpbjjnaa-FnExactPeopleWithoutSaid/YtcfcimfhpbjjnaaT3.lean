import Derived.Test.YtcfcimfhpbjjnaaT2
namespace Go.Proofs.Ytcfcimfhpbjjnaa
open Go.RowKit
def cnt (l : List Pn) (a j s : Int) : Int := ((l.filter (fun p => fit3 p a j s)).length : Nat)
def psum (l : List Pn) (a j s : Int) : Int := ((l.filter (fun p => fit3 p a j s)).map Pn.pay).sum
def askOk (l : List Pn) (a j s : Int) : Bool := okL l && ask3 a j s
def many (l : List Pn) (a j s : Int) : Int := if askOk l a j s = true then cnt l a j s else -1
def pay (l : List Pn) (a j s : Int) : Int := if askOk l a j s = true then psum l a j s else -1

theorem cnt_take (l : List Pn) (a j s : Int) (k : Nat) (hk : k < l.length) : cnt (l.take (k + 1)) a j s = cnt (l.take k) a j s + if fit3 l[k] a j s = true then 1 else 0 := by
  rw [List.take_succ_eq_append_getElem hk]; simp only [cnt, List.filter_append, List.length_append, List.filter_cons, List.filter_nil]
  split <;> simp
theorem psum_take (l : List Pn) (a j s : Int) (k : Nat) (hk : k < l.length) : psum (l.take (k + 1)) a j s = psum (l.take k) a j s + if fit3 l[k] a j s = true then l[k].pay else 0 := by
  rw [List.take_succ_eq_append_getElem hk]; simp only [psum, List.filter_append, List.map_append, List.filter_cons, List.filter_nil]
  split <;> simp
theorem cnt_bd (l : List Pn) (a j s : Int) : 0 ≤ cnt l a j s ∧ cnt l a j s ≤ l.length := by
  have := List.length_filter_le (fun p => fit3 p a j s) l
  simp only [cnt]; omega
theorem okP_pay {p : Pn} (h : okP p = true) : 0 ≤ p.pay ∧ p.pay ≤ 999 := by
  simp [okP] at h; omega
theorem psum_bd (l : List Pn) (a j s : Int) (h : l.all okP = true) : 0 ≤ psum l a j s ∧ psum l a j s ≤ 999 * l.length := by
  induction l with
  | nil => simp [psum]
  | cons p l ih =>
    simp only [List.all_cons, Bool.and_eq_true] at h
    have hp := okP_pay h.1
    have hi := ih h.2
    simp only [psum, List.filter_cons, List.length_cons] at *
    split
    · simp only [List.map_cons, List.sum_cons]; omega
    · omega
theorem okL_all {l : List Pn} (h : okL l = true) : l.length ≤ 40 ∧ l.all okP = true := by
  simpa [okL] using h
theorem all_take {l : List Pn} (h : l.all okP = true) (k : Nat) : (l.take k).all okP = true := by
  rw [List.all_eq_true] at *; exact fun x hx => h x (List.mem_of_mem_take hx)

theorem sMany_any (l : List Pn) (A : Option Addr) (c : Nat) (a j s : Int) (w : World) (hr : Row w w.heap.size A (pcells l)) (hl : l.length ≤ maxLen) :
    Calls Try.prog 30 #[.slice A l.length c, .int .i64 a, .int .i64 j, .int .i64 s] w fun e w' => e = .returned (.int .i64 (many l a j s)) ∧ Below w.heap.size w w' := by
  cases hv : okL l
  · go_enter Try.func30, Try.ntmps30
    go_wp2_with fail
    refine (sValid_any l A c _ hr hl).mono ?_
    rintro e w' ⟨rfl, hb⟩
    rw [hv]
    go_wp2
    go_ret
    exact ⟨reti (by simp [many, askOk, hv]), hb⟩
  · cases ha : ask3 a j s
    · go_enter Try.func30, Try.ntmps30
      go_wp2_with fail
      refine (sValid_any l A c _ hr hl).mono ?_
      rintro e w' ⟨rfl, hb⟩
      rw [hv]
      go_wp2_with fail
      refine (l1Ask_any a j s _).mono ?_
      rintro e w' ⟨rfl, rfl⟩
      rw [ha]
      go_wp2
      go_ret
      exact ⟨reti (by simp [many, askOk, ha]), hb⟩
    · obtain ⟨h40, hall⟩ := okL_all hv
      have HL := Lib.hid hall; clear hall
      go_enter Try.func30, Try.ntmps30
      go_wp2_with fail
      refine (sValid_any l A c _ hr hl).mono ?_
      rintro e w1 ⟨rfl, hb⟩
      rw [hv]
      go_wp2_with fail
      refine (l1Ask_any a j s _).mono ?_
      rintro e w' ⟨rfl, rfl⟩
      rw [ha]
      have hz := hb.size
      have HV := Lib.hid hv; clear hv
      have HQ := Lib.hid ha; clear ha
      go_wp2
      go_loopw [9, 10] (fun n i wr => ∃ k : Nat, k ≤ l.length ∧ i = .int .i64 k ∧ Below w.heap.size w wr ∧ n = .int .i64 (cnt (l.take k) a j s)) (fun _ i _ => l.length - (intOf i).toNat)
      case atStart => exact ⟨0, Nat.zero_le _, rfl, hb, rfl⟩
      case round =>
        obtain ⟨k, hk, rfl, hb1, rfl⟩ := hrel
        have hbd := cnt_bd (l.take k) a j s
        have htl : (l.take k).length ≤ k := List.length_take_le _ _
        by_cases hlt : k < l.length
        · obtain ⟨b, o, rfl, hbw, c0, c1, c2, c3⟩ := (hr.below hb1 (Nat.le_refl _)).at_ k hlt
          have hz1 := hb1.size
          have HT := Lib.hid (cnt_take l a j s k hlt)
          go_wp2_with fail
          refine (l1Is_any l[k] a j s _).mono ?_
          rintro e w' ⟨rfl, rfl⟩
          cases hf : fit3 l[k] a j s
          all_goals
            go_wp2
            go_roundw
            case rel => exact ⟨k + 1, by omega, by go_num, (hb1.alloc hz1 _), by rw [HT.out, hf]; simp⟩
            case measure => simp [intOf]; omega
        · go_wp2
          go_ret
          exact ⟨reti (by rw [List.take_of_length_le (by omega)]; simp [many, askOk, HV.out, HQ.out]), hb1⟩
end Go.Proofs.Ytcfcimfhpbjjnaa
