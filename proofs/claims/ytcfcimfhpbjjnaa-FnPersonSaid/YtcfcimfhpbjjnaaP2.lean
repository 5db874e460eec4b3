import Derived.Test.YtcfcimfhpbjjnaaP1
namespace Go.Proofs.Ytcfcimfhpbjjnaa
open Go.RowKit
theorem w_Person (A : Option Addr) (n c : Nat) (hnc : n ≤ c) (hn : n ≤ maxLen) (w : World) (hb : Bytes w w.heap.size A n) :
    Calls Try.prog 3 #[.slice A n c] w fun e w' => e = .returned (.bool true) ∧ Below w.heap.size w w' := by
  have hn2 := hn
  unfold maxLen at hn2
  by_cases hbig : 1048576 < n
  · go_enter Try.func3, Try.ntmps3
    go_wp2
    go_ret
    exact ⟨rfl, Below.refl _ _⟩
  · go_enter Try.func3, Try.ntmps3
    go_wp2_with fail
    refine (drawPerson_any A n c hnc hn _ hb).mono ?_
    rintro e W ⟨p, rfl, hW⟩
    have HW := Lib.hid hW
    have hz := hW.size
    clear hW hb
    go_wp2_with fail
    refine (personValid_any p _).mono ?_
    rintro e w1 ⟨rfl, rfl⟩
    go_wp2_with fail
    refine (sPersonValid_any p _).mono ?_
    rintro e w2 ⟨rfl, rfl⟩
    cases hok : okP p
    · go_wp2
      go_ret
      refine ⟨rfl, ?_⟩
      repeat' (first | exact HW.out | refine Below.alloc ?_ ?_ _ | refine Below.setCell ?_ ?_ _)
      all_goals (first | omega | (simp; omega))
    · clear hok
      have hA : okP ⟨4, p.job, p.sex, p.pay⟩ = false := by simp [okP, inC]
      have hB : okP ⟨p.area, -1, p.sex, p.pay⟩ = false := by simp [okP, inC]
      have hC : okP ⟨p.area, p.job, 2, p.pay⟩ = false := by simp [okP, inC]
      have hD : okP ⟨p.area, p.job, p.sex, 1000⟩ = false := by simp [okP, inC]
      have HA := Lib.hid hA; clear hA
      have HB := Lib.hid hB; clear hB
      have HC := Lib.hid hC; clear hC
      have HD := Lib.hid hD; clear hD
      go_wp2_with fail
      refine (personValid_any ⟨4, p.job, p.sex, p.pay⟩ _).mono ?_
      rintro e w3 ⟨rfl, rfl⟩
      rw [HA.out]
      go_wp2_with fail
      refine (personValid_any ⟨p.area, -1, p.sex, p.pay⟩ _).mono ?_
      rintro e w4 ⟨rfl, rfl⟩
      rw [HB.out]
      go_wp2_with fail
      refine (personValid_any ⟨p.area, p.job, 2, p.pay⟩ _).mono ?_
      rintro e w5 ⟨rfl, rfl⟩
      rw [HC.out]
      go_wp2_with fail
      refine (personValid_any ⟨p.area, p.job, p.sex, 1000⟩ _).mono ?_
      rintro e w6 ⟨rfl, rfl⟩
      rw [HD.out]
      go_wp2
      go_ret
      refine ⟨rfl, ?_⟩
      repeat' (first | exact HW.out | refine Below.alloc ?_ ?_ _ | refine Below.setCell ?_ ?_ _)
      all_goals (first | omega | (simp; omega))
end Go.Proofs.Ytcfcimfhpbjjnaa
