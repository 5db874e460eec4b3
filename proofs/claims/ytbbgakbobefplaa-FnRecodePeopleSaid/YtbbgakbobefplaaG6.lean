/- Contracts of the model: groups of people. -/
import Derived.Test.YtbbgakbobefplaaG5
namespace Go.Proofs.Ytbbgakbobefplaa
open Go.RowKit
theorem sizeAt_le (x : List Pn) (k : Nat) : sizeAt x k ≤ x.length := by
  have h := cn_le (keys x) (key (x.getD k p00))
  have h2 : (keys x).length = x.length := by simp [keys]
  unfold sizeAt; omega
theorem sSize_at (W : World) (x : List Pn) (q : Nat) (hq : q = x.length) (A : Option Addr) (c k : Nat) (hk : k < q) (hlm : x.length ≤ 1000000) (s : Nat) (hs : sizeAt x k = s) (hr : Row W W.heap.size A (pcells x)) (w : World) (hb : Below W.heap.size W w) :
    Calls Try.prog 45 #[.slice A q c, .int .i64 k] w fun e w' => e = .returned (.int .i64 s) ∧ Below W.heap.size W w' := by
  subst hs; exact (sSize_any x q hq A c k hk hlm w ((hr.below hb (Nat.le_refl _)).more hb.size)).mono fun e w' ⟨h1, h2⟩ => ⟨h1, hb.trans (h2.mono hb.size)⟩
theorem sizeAt_take (x : List Pn) (k : Nat) : sizeAt (x.take (k + 1)) k = sizeTo x k (k + 1) := by
  unfold sizeAt sizeTo
  have e : (x.take (k + 1)).getD k p00 = x.getD k p00 := by rw [List.getD_eq_getElem?_getD, List.getElem?_take, if_pos (by omega), List.getD_eq_getElem?_getD]
  rw [e]
/-- The first people. -/
theorem Row.frontP {w : World} {B : Nat} {A : Option Addr} {l : List Pn} {k : Nat} (h : Row w B A (pcells l)) : Row w B A (pcells (l.take k)) := by
  rcases h with h | ⟨b, o, rfl, hb, hcell⟩
  · left
    have := pcells_length l; rw [h] at this; simp at this
    have hn : l = [] := List.eq_nil_of_length_eq_zero (by omega)
    rw [hn]; simp [pcells]
  · right
    refine ⟨b, o, rfl, hb, fun j u hu => hcell j u ?_⟩
    have h1 : pcells l = pcells (l.take k) ++ pcells (l.drop k) := by simp only [pcells, ← List.flatMap_append, List.take_append_drop]
    rw [h1, List.getElem?_append_left (List.getElem?_eq_some_iff.1 hu).1]; exact hu
set_option maxHeartbeats 1000000 in
theorem sGLeast_any (l : List Pn) (q : Nat) (hq : q = l.length) (A : Option Addr) (c : Nat) (hlm : l.length ≤ maxLen) (ll : List (List Int)) (n : Nat) (hn : n = ll.length) (A2 : Option Addr) (c2 : Nat) (hl : ll.length ≤ maxLen) (r : Rc) (w : World) (hr : Row w w.heap.size A (pcells l)) (hll : LL w w.heap.size A2 ll) :
    Calls Try.prog 27 #[.slice A q c, .slice A2 n c2, r.val] w fun e w' => e = .returned (.int .i64 (gleast l ll r)) ∧ Below w.heap.size w w' := by
  have HQ := Lib.hid hq
  have HN := Lib.hid hn
  clear hq hn
  obtain ⟨W, hW⟩ : ∃ W, W = (w.alloc (.cells #[.int .i64 r.area, .int .i64 r.job, .int .i64 r.sex] TRc)) := ⟨_, rfl⟩
  have hb1 : Below w.heap.size w W := by rw [hW]; exact (Below.refl _ _).alloc (Nat.le_refl _) _
  have HR := Lib.hid ((hr.below hb1 (Nat.le_refl _)).more hb1.size)
  have HL := Lib.hid (hll.moved hb1)
  have HB := Lib.hid hb1
  clear hr hll hb1
  cases hok : grOk l ll r
  · have HE := Lib.hid (show gleast l ll r = -1 by simp [gleast, hok])
    have HOK := Lib.hid hok; clear hok
    go_enter Try.func27, Try.ntmps27
    go_wp2_with fail
    rw [← hW]
    clear hW
    refine (sRecPeople_no l q HQ.out A c hlm ll n HN.out A2 c2 hl r HOK.out _ HR.out HL.out).mono ?_
    rintro e w2 ⟨v, rfl, _, h2⟩
    have HB2 := Lib.hid (HB.out.trans (h2.mono HB.out.size)); clear h2
    go_wp2
    go_ret
    exact ⟨reti HE.out.symm, HB2.out⟩
  · have HOK := Lib.hid hok
    have h40 : l.length ≤ 40 := by have h : okL l = true ∧ rcOk ll r = true := by simpa [grOk] using hok
                                   exact (okL_all h.1).1
    have hq40 : q ≤ 40 := by rw [HQ.out]; exact h40
    clear hok
    go_enter Try.func27, Try.ntmps27
    go_wp2_with fail
    rw [← hW]
    clear hW
    refine (sRecPeople_yes l q HQ.out A c ll n HN.out A2 c2 r HOK.out _ HR.out HL.out).mono ?_
    rintro e w2 ⟨v, rfl, ho2, h2⟩
    obtain ⟨x, hx⟩ : ∃ x, recL ll r l = x := ⟨_, rfl⟩
    rw [hx] at ho2
    have HX := Lib.hid hx
    have HXL := Lib.hid (show q = x.length by rw [← hx, recL_len, HQ.out])
    have hx6 : x.length ≤ 1000000 := by rw [← HXL.out]; omega
    clear hx
    obtain ⟨Ax, cx, hv, hc1, hc2, hrx, _⟩ := ho2.form
    rw [← HXL.out] at hv hc1
    subst hv
    have HRX := Lib.hid hrx
    have HB2 := Lib.hid (HB.out.trans (h2.mono HB.out.size))
    clear h2 ho2 hrx
    go_wp2
    go_loopw [9, 10] (fun v i wr => ∃ k : Nat, k ≤ q ∧ i = .int .i64 k ∧ v = .int .i64 (leastTo x k) ∧ Below w2.heap.size w2 wr) (fun _ i _ => q - (intOf i).toNat)
    case atStart => exact ⟨0, Nat.zero_le _, rfl, by simp [leastTo]; exact_mod_cast HXL.out, Below.refl _ _⟩
    case round =>
      obtain ⟨k, hk, rfl, rfl, hb⟩ := hrel
      have hle := leastTo_le x k
      by_cases hlt : k < q
      · have hki : (k : Int) < (q : Int) := by omega
        have hkx : k < x.length := by rw [← HXL.out]; exact hlt
        have HS := Lib.hid (leastTo_succ x k hkx)
        obtain ⟨s, hs⟩ : ∃ s, leastTo x k = s := ⟨_, rfl⟩
        rw [hs] at hle HS ⊢
        clear hs
        obtain ⟨z, hz⟩ : ∃ z, sizeAt x k = z := ⟨_, rfl⟩
        have hzl : z ≤ x.length := by rw [← hz]; exact sizeAt_le x k
        rw [hz] at HS
        have HZ := Lib.hid hz; clear hz
        go_wp2_with fail
        refine (sSize_at w2 x q HXL.out Ax cx k hlt hx6 z HZ.out HRX.out _ hb).mono ?_
        rintro e w3 ⟨rfl, hb3⟩
        have hcase : (s < z ∧ min s z = s) ∨ (z ≤ s ∧ min s z = z) := by omega
        rcases hcase with ⟨hm, hm2⟩ | ⟨hm, hm2⟩
        all_goals
          rw [hm2] at HS
          clear hm2
          go_wp2
          go_roundw
          case rel => exact ⟨k + 1, by omega, by go_num, by rw [HS.out]; try simp; try omega, hb3⟩
          case measure => simp [intOf]; omega
      · have hkq : k = x.length := by rw [← HXL.out]; omega
        have hall := leastTo_all x
        rw [← hkq] at hall
        rw [hall]
        go_wp2
        go_ret
        exact ⟨reti (by simp [gleast, HOK.out, keysOf, HX.out]), HB2.out.trans (hb.mono HB2.out.size)⟩
set_option maxHeartbeats 1000000 in
theorem sGSize_any (l : List Pn) (q : Nat) (hq : q = l.length) (A : Option Addr) (c : Nat) (hlm : l.length ≤ maxLen) (ll : List (List Int)) (n : Nat) (hn : n = ll.length) (A2 : Option Addr) (c2 : Nat) (hl : ll.length ≤ maxLen) (r : Rc) (k : Int) (w : World) (hr : Row w w.heap.size A (pcells l)) (hll : LL w w.heap.size A2 ll) :
    Calls Try.prog 24 #[.slice A q c, .slice A2 n c2, r.val, .int .i64 k] w fun e w' => e = .returned (.int .i64 (gsize l ll r k)) ∧ Below w.heap.size w w' := by
  have HQ := Lib.hid hq
  have HN := Lib.hid hn
  clear hq hn
  obtain ⟨W, hW⟩ : ∃ W, W = (w.alloc (.cells #[.int .i64 r.area, .int .i64 r.job, .int .i64 r.sex] TRc)) := ⟨_, rfl⟩
  have hb1 : Below w.heap.size w W := by rw [hW]; exact (Below.refl _ _).alloc (Nat.le_refl _) _
  have HR := Lib.hid ((hr.below hb1 (Nat.le_refl _)).more hb1.size)
  have HL := Lib.hid (hll.moved hb1)
  have HB := Lib.hid hb1
  clear hr hll hb1
  have hlm2 : q ≤ 2 ^ 63 - 1 := by rw [HQ.out]; exact hlm
  cases hok : grOk l ll r
  · have HE := Lib.hid (show gsize l ll r k = -1 by simp [gsize, hok])
    have HOK := Lib.hid hok; clear hok
    go_enter Try.func24, Try.ntmps24
    go_wp2_with fail
    rw [← hW]
    clear hW
    refine (sRecPeople_no l q HQ.out A c hlm ll n HN.out A2 c2 hl r HOK.out _ HR.out HL.out).mono ?_
    rintro e w2 ⟨v, rfl, _, h2⟩
    have HB2 := Lib.hid (HB.out.trans (h2.mono HB.out.size)); clear h2
    go_wp2
    go_ret
    exact ⟨reti HE.out.symm, HB2.out⟩
  · have HOK := Lib.hid hok
    have h40 : l.length ≤ 40 := by have h : okL l = true ∧ rcOk ll r = true := by simpa [grOk] using hok
                                   exact (okL_all h.1).1
    have hq40 : q ≤ 40 := by rw [HQ.out]; exact h40
    clear hok
    go_enter Try.func24, Try.ntmps24
    go_wp2_with fail
    rw [← hW]
    clear hW
    refine (sRecPeople_yes l q HQ.out A c ll n HN.out A2 c2 r HOK.out _ HR.out HL.out).mono ?_
    rintro e w2 ⟨v, rfl, ho2, h2⟩
    obtain ⟨x, hx⟩ : ∃ x, recL ll r l = x := ⟨_, rfl⟩
    rw [hx] at ho2
    have HX := Lib.hid hx
    have HXL := Lib.hid (show q = x.length by rw [← hx, recL_len, HQ.out])
    have hx6 : x.length ≤ 1000000 := by rw [← HXL.out]; omega
    clear hx
    obtain ⟨Ax, cx, hv, hc1, hc2, hrx, _⟩ := ho2.form
    rw [← HXL.out] at hv hc1
    subst hv
    have HRX := Lib.hid hrx
    have HB2 := Lib.hid (HB.out.trans (h2.mono HB.out.size))
    clear h2 ho2 hrx
    go_wp2_with fail
    refine (l6In_any k 0 ((q : Int) - 1) _).mono ?_
    rintro e w' ⟨rfl, rfl⟩
    cases hin : in3 k 0 ((q : Int) - 1)
    · have HE := Lib.hid (show gsize l ll r k = -1 by rw [HQ.out] at hin; simp [gsize, hin])
      clear hin
      go_wp2
      go_ret
      exact ⟨reti HE.out.symm, HB2.out⟩
    · have hk := in3_parts.1 hin
      rw [HQ.out] at hin
      obtain ⟨k, rfl⟩ := Int.eq_ofNat_of_zero_le hk.1
      have hkq : k < q := by omega
      have HE := Lib.hid (show gsize l ll r k = sizeAt x k by rw [gsize, HOK.out, hin, HX.out]; simp)
      clear hin hk
      go_wp2_with fail
      refine (sSize_at w2 x q HXL.out Ax cx k hkq hx6 _ rfl HRX.out _ (Below.refl _ _)).mono ?_
      rintro e w3 ⟨rfl, hb3⟩
      go_wp2
      go_ret
      exact ⟨reti HE.out.symm, HB2.out.trans (hb3.mono HB2.out.size)⟩
end Go.Proofs.Ytbbgakbobefplaa
