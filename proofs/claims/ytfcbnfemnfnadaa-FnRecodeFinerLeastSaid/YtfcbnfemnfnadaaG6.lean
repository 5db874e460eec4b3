/- Contracts of the model: groups of people. -/
import Derived.Test.YtfcbnfemnfnadaaG5
namespace Go.Proofs.Ytfcbnfemnfnadaa
open Go.RowKit
theorem sizeAt_le (x : List Pn) (k : Nat) : sizeAt x k ≤ x.length := by
  have h := cn_le (keys x) (key (x.getD k p00))
  have h2 : (keys x).length = x.length := by simp [keys]
  unfold sizeAt; omega
theorem sSize_at (W : World) (x : List Pn) (q : Nat) (hq : q = x.length) (A : Option Addr) (c k : Nat) (hk : k < q) (hlm : x.length ≤ 1000000) (s : Nat) (hs : sizeAt x k = s) (hr : Row W W.heap.size A (pcells x)) (w : World) (hb : Below W.heap.size W w) :
    Calls Try.prog 33 #[.slice A q c, .int .i64 k] w fun e w' => e = .returned (.int .i64 s) ∧ Below W.heap.size W w' := by
  subst hs; exact (sSize_any x q hq A c k hk hlm w ((hr.below hb (Nat.le_refl _)).more hb.size)).mono fun e w' ⟨h1, h2⟩ => ⟨h1, hb.trans (h2.mono hb.size)⟩
theorem sizeAt_take (x : List Pn) (k : Nat) : sizeAt (x.take (k + 1)) k = sizeTo x k (k + 1) := by
  unfold sizeAt sizeTo
  have e : (x.take (k + 1)).getD k p00 = x.getD k p00 := by rw [List.getD_eq_getElem?_getD, List.getElem?_take, if_pos (by omega), List.getD_eq_getElem?_getD]
  rw [e]
/-- The first people. -/
theorem Row.frontP {w : World} {B : Nat} {A : Option Addr} {l : List Pn} {k : Nat} (h : Row w B A (pcells l)) : Row w B A (pcells (l.take k)) := by
  rcases h with h | ⟨b, o, rfl, hb, hcell⟩
  · left
    have := pcells_length l; rw [h] at this; simp at this
    have hn : l = [] := List.eq_nil_of_length_eq_zero (by omega)
    rw [hn]; simp [pcells]
  · right
    refine ⟨b, o, rfl, hb, fun j u hu => hcell j u ?_⟩
    have h1 : pcells l = pcells (l.take k) ++ pcells (l.drop k) := by simp only [pcells, ← List.flatMap_append, List.take_append_drop]
    rw [h1, List.getElem?_append_left (List.getElem?_eq_some_iff.1 hu).1]; exact hu
set_option maxHeartbeats 1000000 in
theorem sGMany_any (l : List Pn) (q : Nat) (hq : q = l.length) (A : Option Addr) (c : Nat) (hlm : l.length ≤ maxLen) (ll : List (List Int)) (n : Nat) (hn : n = ll.length) (A2 : Option Addr) (c2 : Nat) (hl : ll.length ≤ maxLen) (r : Rc) (w : World) (hr : Row w w.heap.size A (pcells l)) (hll : LL w w.heap.size A2 ll) :
    Calls Try.prog 15 #[.slice A q c, .slice A2 n c2, r.val] w fun e w' => e = .returned (.int .i64 (gmany l ll r)) ∧ Below w.heap.size w w' := by
  have HQ := Lib.hid hq
  have HN := Lib.hid hn
  clear hq hn
  obtain ⟨W, hW⟩ : ∃ W, W = (w.alloc (.cells #[.int .i64 r.area, .int .i64 r.job, .int .i64 r.sex] TRc)) := ⟨_, rfl⟩
  have hb1 : Below w.heap.size w W := by rw [hW]; exact (Below.refl _ _).alloc (Nat.le_refl _) _
  have HR := Lib.hid ((hr.below hb1 (Nat.le_refl _)).more hb1.size)
  have HL := Lib.hid (hll.moved hb1)
  have HB := Lib.hid hb1
  clear hr hll hb1
  cases hok : grOk l ll r
  · have HE := Lib.hid (show gmany l ll r = -1 by simp [gmany, hok])
    have HOK := Lib.hid hok; clear hok
    go_enter Try.func15, Try.ntmps15
    go_wp2_with fail
    rw [← hW]
    clear hW
    refine (sRecPeople_no l q HQ.out A c hlm ll n HN.out A2 c2 hl r HOK.out _ HR.out HL.out).mono ?_
    rintro e w2 ⟨v, rfl, _, h2⟩
    have HB2 := Lib.hid (HB.out.trans (h2.mono HB.out.size)); clear h2
    go_wp2
    go_ret
    exact ⟨reti HE.out.symm, HB2.out⟩
  · have HOK := Lib.hid hok
    have h40 : l.length ≤ 40 := by have h : okL l = true ∧ rcOk ll r = true := by simpa [grOk] using hok
                                   exact (okL_all h.1).1
    have hq40 : q ≤ 40 := by rw [HQ.out]; exact h40
    clear hok
    go_enter Try.func15, Try.ntmps15
    go_wp2_with fail
    rw [← hW]
    clear hW
    refine (sRecPeople_yes l q HQ.out A c ll n HN.out A2 c2 r HOK.out _ HR.out HL.out).mono ?_
    rintro e w2 ⟨v, rfl, ho2, h2⟩
    obtain ⟨x, hx⟩ : ∃ x, recL ll r l = x := ⟨_, rfl⟩
    rw [hx] at ho2
    have HX := Lib.hid hx
    have HXL := Lib.hid (show q = x.length by rw [← hx, recL_len, HQ.out])
    have hx6 : x.length ≤ 1000000 := by rw [← HXL.out]; omega
    clear hx
    obtain ⟨Ax, cx, hv, hc1, hc2, hrx, _⟩ := ho2.form
    rw [← HXL.out] at hv hc1
    subst hv
    have HRX := Lib.hid hrx
    have HB2 := Lib.hid (HB.out.trans (h2.mono HB.out.size))
    clear h2 ho2 hrx
    go_wp2
    go_loopw [9, 10] (fun v i wr => ∃ k : Nat, k ≤ q ∧ i = .int .i64 k ∧ v = .int .i64 (manyTo x k) ∧ Below w2.heap.size w2 wr) (fun _ i _ => q - (intOf i).toNat)
    case atStart => exact ⟨0, Nat.zero_le _, rfl, by simp [manyTo, keys, many1], Below.refl _ _⟩
    case round =>
      obtain ⟨k, hk, rfl, rfl, hb⟩ := hrel
      have hle := manyTo_le x k
      by_cases hlt : k < q
      · have hki : (k : Int) < (q : Int) := by omega
        have hkx : k < x.length := by rw [← HXL.out]; exact hlt
        have HS := Lib.hid (manyTo_succ x k hkx)
        obtain ⟨s, hs⟩ : ∃ s, manyTo x k = s := ⟨_, rfl⟩
        rw [hs] at hle HS ⊢
        clear hs
        obtain ⟨z, hz⟩ : ∃ z, sizeTo x k (k + 1) = z := ⟨_, rfl⟩
        have hzl : z ≤ k + 1 := by rw [← hz]; exact sizeTo_le x k (k + 1)
        rw [hz] at HS
        have HZ := Lib.hid (show sizeAt (x.take (k + 1)) k = z by rw [← hz]; exact sizeAt_take x k)
        clear hz
        have hkc : k + 1 ≤ cx := by omega
        have hkc2 : (k : Int) + 1 ≤ (cx : Int) := by omega
        have HTL := Lib.hid (show k + 1 = (x.take (k + 1)).length by simp; omega)
        have htl : (x.take (k + 1)).length ≤ 1000000 := by have := List.length_take_le (k + 1) x; omega
        go_wp2_with fail
        refine (sSize_at w2 (x.take (k + 1)) _ (by first | exact HTL.out | (simp; omega)) Ax _ k (by omega) htl z HZ.out HRX.out.frontP _ hb).mono ?_
        rintro e w3 ⟨rfl, hb3⟩
        by_cases hz1 : z = 1
        · rw [if_pos hz1] at HS
          have hz1' : ((z : Int) == 1) = true := by rw [beq_iff_eq]; omega
          clear hz1
          go_wp2
          go_roundw
          case rel => exact ⟨k + 1, by omega, by go_num, by rw [HS.out]; go_num, hb3⟩
          case measure => simp [intOf]; omega
        · rw [if_neg hz1] at HS
          have hz1' : ((z : Int) == 1) = false := by rw [beq_eq_false_iff_ne]; omega
          clear hz1
          go_wp2
          go_roundw
          case rel => exact ⟨k + 1, by omega, by go_num, by rw [HS.out]; simp, hb3⟩
          case measure => simp [intOf]; omega
      · have hkq : k = x.length := by rw [← HXL.out]; omega
        have hall := manyTo_all x
        rw [← hkq] at hall
        rw [hall]
        go_wp2
        go_ret
        exact ⟨reti (by simp [gmany, HOK.out, keysOf, HX.out]), HB2.out.trans (hb.mono HB2.out.size)⟩
set_option maxHeartbeats 1000000 in
theorem sGUniq_any (l : List Pn) (q : Nat) (hq : q = l.length) (A : Option Addr) (c : Nat) (hlm : l.length ≤ maxLen) (ll : List (List Int)) (n : Nat) (hn : n = ll.length) (A2 : Option Addr) (c2 : Nat) (hl : ll.length ≤ maxLen) (r : Rc) (w : World) (hr : Row w w.heap.size A (pcells l)) (hll : LL w w.heap.size A2 ll) :
    Calls Try.prog 20 #[.slice A q c, .slice A2 n c2, r.val] w fun e w' => e = .returned (.int .i64 (guniq l ll r)) ∧ Below w.heap.size w w' := by
  have HQ := Lib.hid hq
  have HN := Lib.hid hn
  clear hq hn
  obtain ⟨W, hW⟩ : ∃ W, W = (w.alloc (.cells #[.int .i64 r.area, .int .i64 r.job, .int .i64 r.sex] TRc)) := ⟨_, rfl⟩
  have hb1 : Below w.heap.size w W := by rw [hW]; exact (Below.refl _ _).alloc (Nat.le_refl _) _
  have HR := Lib.hid ((hr.below hb1 (Nat.le_refl _)).more hb1.size)
  have HL := Lib.hid (hll.moved hb1)
  have HB := Lib.hid hb1
  clear hr hll hb1
  cases hok : grOk l ll r
  · have HE := Lib.hid (show guniq l ll r = -1 by simp [guniq, hok])
    have HOK := Lib.hid hok; clear hok
    go_enter Try.func20, Try.ntmps20
    go_wp2_with fail
    rw [← hW]
    clear hW
    refine (sRecPeople_no l q HQ.out A c hlm ll n HN.out A2 c2 hl r HOK.out _ HR.out HL.out).mono ?_
    rintro e w2 ⟨v, rfl, _, h2⟩
    have HB2 := Lib.hid (HB.out.trans (h2.mono HB.out.size)); clear h2
    go_wp2
    go_ret
    exact ⟨reti HE.out.symm, HB2.out⟩
  · have HOK := Lib.hid hok
    have h40 : l.length ≤ 40 := by have h : okL l = true ∧ rcOk ll r = true := by simpa [grOk] using hok
                                   exact (okL_all h.1).1
    have hq40 : q ≤ 40 := by rw [HQ.out]; exact h40
    clear hok
    go_enter Try.func20, Try.ntmps20
    go_wp2_with fail
    rw [← hW]
    clear hW
    refine (sRecPeople_yes l q HQ.out A c ll n HN.out A2 c2 r HOK.out _ HR.out HL.out).mono ?_
    rintro e w2 ⟨v, rfl, ho2, h2⟩
    obtain ⟨x, hx⟩ : ∃ x, recL ll r l = x := ⟨_, rfl⟩
    rw [hx] at ho2
    have HX := Lib.hid hx
    have HXL := Lib.hid (show q = x.length by rw [← hx, recL_len, HQ.out])
    have hx6 : x.length ≤ 1000000 := by rw [← HXL.out]; omega
    clear hx
    obtain ⟨Ax, cx, hv, hc1, hc2, hrx, _⟩ := ho2.form
    rw [← HXL.out] at hv hc1
    subst hv
    have HRX := Lib.hid hrx
    have HB2 := Lib.hid (HB.out.trans (h2.mono HB.out.size))
    clear h2 ho2 hrx
    go_wp2
    go_loopw [9, 10] (fun v i wr => ∃ k : Nat, k ≤ q ∧ i = .int .i64 k ∧ v = .int .i64 (uniqTo x k) ∧ Below w2.heap.size w2 wr) (fun _ i _ => q - (intOf i).toNat)
    case atStart => exact ⟨0, Nat.zero_le _, rfl, by simp [uniqTo], Below.refl _ _⟩
    case round =>
      obtain ⟨k, hk, rfl, rfl, hb⟩ := hrel
      have hle := uniqTo_le x k
      by_cases hlt : k < q
      · have hki : (k : Int) < (q : Int) := by omega
        have hkx : k < x.length := by rw [← HXL.out]; exact hlt
        have HS := Lib.hid (uniqTo_succ x k hkx)
        obtain ⟨s, hs⟩ : ∃ s, uniqTo x k = s := ⟨_, rfl⟩
        rw [hs] at hle HS ⊢
        clear hs
        obtain ⟨z, hz⟩ : ∃ z, sizeAt x k = z := ⟨_, rfl⟩
        have hzl : z ≤ x.length := by rw [← hz]; exact sizeAt_le x k
        rw [hz] at HS
        have HZ := Lib.hid hz; clear hz
        go_wp2_with fail
        refine (sSize_at w2 x q HXL.out Ax cx k hlt hx6 z HZ.out HRX.out _ hb).mono ?_
        rintro e w3 ⟨rfl, hb3⟩
        by_cases hz1 : z = 1
        · rw [if_pos hz1] at HS
          have hz1' : ((z : Int) == 1) = true := by rw [beq_iff_eq]; omega
          clear hz1
          go_wp2
          go_roundw
          case rel => exact ⟨k + 1, by omega, by go_num, by rw [HS.out]; go_num, hb3⟩
          case measure => simp [intOf]; omega
        · rw [if_neg hz1] at HS
          have hz1' : ((z : Int) == 1) = false := by rw [beq_eq_false_iff_ne]; omega
          clear hz1
          go_wp2
          go_roundw
          case rel => exact ⟨k + 1, by omega, by go_num, by rw [HS.out]; simp, hb3⟩
          case measure => simp [intOf]; omega
      · have hkq : k = x.length := by rw [← HXL.out]; omega
        have hall := uniqTo_all x
        rw [← hkq] at hall
        rw [hall]
        go_wp2
        go_ret
        exact ⟨reti (by simp [guniq, HOK.out, keysOf, HX.out]), HB2.out.trans (hb.mono HB2.out.size)⟩
end Go.Proofs.Ytfcbnfemnfnadaa
