/- Contracts of the model: recodings. -/
import Derived.Test.YtbbgakbobefplaaG2
import Derived.Test.YtbbgakbobefplaaL4
namespace Go.Proofs.Ytbbgakbobefplaa
open Go.RowKit
theorem rcOk_parts {ll : List (List Int)} {r : Rc} : rcOk ll r = true ↔ ladOk ll = true ∧ in3 r.area 0 ll.length = true ∧ in3 r.job 0 1 = true ∧ in3 r.sex 0 1 = true := by
  simp only [rcOk, Bool.and_eq_true, and_assoc]
theorem rcOk_no {ll : List (List Int)} {r : Rc} (h : ¬ (ladOk ll = true ∧ in3 r.area 0 ll.length = true ∧ in3 r.job 0 1 = true ∧ in3 r.sex 0 1 = true)) : rcOk ll r = false := by
  cases hc : rcOk ll r
  · rfl
  · exact absurd (rcOk_parts.1 hc) h
abbrev TRc : TypeId := 26
theorem sRcValid_any (ll : List (List Int)) (n : Nat) (hn : n = ll.length) (A : Option Addr) (c : Nat) (hl : ll.length ≤ maxLen) (r : Rc) (w : World) (hr : LL w w.heap.size A ll) :
    Calls Try.prog 51 #[.slice A n c, r.val] w fun e w' => e = .returned (.bool (rcOk ll r)) ∧ Below w.heap.size w w' := by
  have hl2 : n ≤ 2 ^ 63 - 1 := by rw [hn]; exact hl
  have HN := Lib.hid hn; clear hn
  have hb1 : Below w.heap.size w (w.alloc (.cells #[.int .i64 r.area, .int .i64 r.job, .int .i64 r.sex] TRc)) := (Below.refl _ _).alloc (Nat.le_refl _) _
  have HL := Lib.hid (hr.moved hb1)
  have HB := Lib.hid hb1; clear hb1
  go_enter Try.func51, Try.ntmps51
  go_wp2_with fail
  refine (sLadder_at ll n HN.out A c _ HL.out hl).mono ?_
  rintro e w' ⟨rfl, m, rfl⟩
  have HB2 := Lib.hid (below_draws HB.out m)
  cases hok : ladOk ll
  · have HE := Lib.hid (rcOk_no (r := r) (fun h => by rw [hok] at h; cases h.1)); clear hok
    go_wp2
    go_ret
    exact ⟨retb HE.out.symm, HB2.out⟩
  have HOK := Lib.hid hok; clear hok
  go_wp2_with fail
  refine (l6In_any r.area 0 n _).mono ?_
  rintro e w' ⟨rfl, rfl⟩
  cases h1 : in3 r.area 0 n
  · have HE := Lib.hid (rcOk_no (ll := ll) (r := r) (fun h => by rw [← HN.out, h1] at h; cases h.2.1)); clear h1
    go_wp2
    go_ret
    exact ⟨retb HE.out.symm, HB2.out⟩
  have H1 := Lib.hid h1; clear h1
  go_wp2_with fail
  refine (l6In_any r.job 0 1 _).mono ?_
  rintro e w' ⟨rfl, rfl⟩
  cases h2 : in3 r.job 0 1
  · have HE := Lib.hid (rcOk_no (ll := ll) (r := r) (fun h => by rw [h2] at h; cases h.2.2.1)); clear h2
    go_wp2
    go_ret
    exact ⟨retb HE.out.symm, HB2.out⟩
  have H2 := Lib.hid h2; clear h2
  go_wp2_with fail
  refine (l6In_any r.sex 0 1 _).mono ?_
  rintro e w' ⟨rfl, rfl⟩
  cases h3 : in3 r.sex 0 1
  · have HE := Lib.hid (rcOk_no (ll := ll) (r := r) (fun h => by rw [h3] at h; cases h.2.2.2)); clear h3
    go_wp2
    go_ret
    exact ⟨retb HE.out.symm, HB2.out⟩
  have H3 := Lib.hid h3; clear h3
  go_wp2
  go_ret
  exact ⟨retb (rcOk_parts.2 ⟨HOK.out, by rw [← HN.out]; exact H1.out, H2.out, H3.out⟩).symm, HB2.out⟩
theorem okP_area {p : Pn} (h : okP p = true) : 0 ≤ p.area ∧ p.area ≤ 3 := by simp [okP, inC] at h; omega
theorem rc_in {ll : List (List Int)} {r : Rc} (h : rcOk ll r = true) : ladOk ll = true ∧ 0 ≤ r.area ∧ r.area ≤ ll.length ∧ 0 ≤ r.job ∧ r.job ≤ 1 ∧ 0 ≤ r.sex ∧ r.sex ≤ 1 := by
  obtain ⟨h0, h1, h2, h3⟩ := rcOk_parts.1 h
  have a := in3_parts.1 h1; have b := in3_parts.1 h2; have c := in3_parts.1 h3
  exact ⟨h0, a.1, a.2, b.1, b.2, c.1, c.2⟩
abbrev TPn : TypeId := 33
set_option maxHeartbeats 1000000 in
theorem sRec_any (ll : List (List Int)) (n : Nat) (hn : n = ll.length) (A : Option Addr) (c : Nat) (r : Rc) (hrc : rcOk ll r = true) (p : Pn) (hp : okP p = true) (w : World) (hr : LL w w.heap.size A ll) :
    Calls Try.prog 35 #[p.val, .slice A n c, r.val] w fun e w' => e = .returned (rec1 ll r p).val ∧ Below w.heap.size w w' := by
  obtain ⟨h0, a0, a1, j0, j1, s0, s1⟩ := rc_in hrc
  obtain ⟨p0, p1⟩ := okP_area hp
  have HN := Lib.hid hn
  have HR := Lib.hid hr
  have H0 := Lib.hid h0
  clear hn hr h0 hrc hp
  obtain ⟨z, hz⟩ : ∃ z, codeAt ll r.area p.area = z := ⟨_, rfl⟩
  have HZ := Lib.hid hz; clear hz
  have hjob : r.job = 0 ∨ r.job = 1 := by omega
  have hsex : r.sex = 0 ∨ r.sex = 1 := by omega
  obtain ⟨ra, rj, rs⟩ := r
  obtain ⟨pa, pj, ps, pp⟩ := p
  simp only at a0 a1 p0 p1 hjob hsex HZ
  clear j0 j1 s0 s1
  rcases hjob with rfl | rfl <;> rcases hsex with rfl | rfl
  all_goals
    unfold Pn.val
    go_enter Try.func35, Try.ntmps35
    go_wp2_with fail
    refine (sCode_any ll H0.out A n c HN.out ra pa a0 a1 p0 p1 _ (HR.out.moved (((((Below.refl _ _).alloc (Nat.le_refl _) _).alloc (by simp) _).alloc (by simp; omega) _).alloc (by simp; omega) _))).mono ?_
    rintro e w' ⟨rfl, rfl⟩
    rw [HZ.out]
    go_wp2
    refine bodyPost_ret (v := Pn.val (rec1 ll _ ⟨pa, pj, ps, pp⟩)) (by simp [results, Try.results35, go_sem, rec1, HZ.out]) rfl ⟨rfl, ?_⟩
    repeat (first | exact Below.refl _ _ | refine Below.alloc ?_ (by simp; try omega) _ | refine Below.setCell ?_ (by simp; try omega) _)
theorem sRec_at (ll : List (List Int)) (n : Nat) (hn : n = ll.length) (A : Option Addr) (c : Nat) (r : Rc) (hrc : rcOk ll r = true) (p p' : Pn) (hp : okP p = true) (hp' : rec1 ll r p = p') (w : World) (hr : LL w w.heap.size A ll) :
    Calls Try.prog 35 #[p.val, .slice A n c, r.val] w fun e w' => e = .returned p'.val ∧ Below w.heap.size w w' := by subst hp'; exact sRec_any ll n hn A c r hrc p hp w hr
end Go.Proofs.Ytbbgakbobefplaa
