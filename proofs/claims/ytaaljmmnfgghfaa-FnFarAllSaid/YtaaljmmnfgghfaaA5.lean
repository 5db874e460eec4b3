/- Contracts of the model: recodings. Contracts of the model: recoded people. Contracts of the model: groups. Contracts of the model: groups of people. Contracts of the model: finer recodings. -/
import Derived.Test.YtaaljmmnfgghfaaA2
import Derived.Test.YtaaljmmnfgghfaaA3
import Derived.Test.YtaaljmmnfgghfaaA4
namespace Go.Proofs.Ytaaljmmnfgghfaa
open Go.RowKit
theorem rcOk_parts {ll : List (List Int)} {r : Rc} : rcOk ll r = true ↔ ladOk ll = true ∧ in3 r.area 0 ll.length = true ∧ in3 r.job 0 1 = true ∧ in3 r.sex 0 1 = true := by
  simp only [rcOk, Bool.and_eq_true, and_assoc]
theorem rcOk_no {ll : List (List Int)} {r : Rc} (h : ¬ (ladOk ll = true ∧ in3 r.area 0 ll.length = true ∧ in3 r.job 0 1 = true ∧ in3 r.sex 0 1 = true)) : rcOk ll r = false := by
  cases hc : rcOk ll r
  · rfl
  · exact absurd (rcOk_parts.1 hc) h
abbrev TRc : TypeId := 26
theorem sRcValid_any (ll : List (List Int)) (n : Nat) (hn : n = ll.length) (A : Option Addr) (c : Nat) (hl : ll.length ≤ maxLen) (r : Rc) (w : World) (hr : LL w w.heap.size A ll) :
    Calls Try.prog 57 #[.slice A n c, r.val] w fun e w' => e = .returned (.bool (rcOk ll r)) ∧ Below w.heap.size w w' := by
  have hl2 : n ≤ 2 ^ 63 - 1 := by rw [hn]; exact hl
  have HN := Lib.hid hn; clear hn
  have hb1 : Below w.heap.size w (w.alloc (.cells #[.int .i64 r.area, .int .i64 r.job, .int .i64 r.sex] TRc)) := (Below.refl _ _).alloc (Nat.le_refl _) _
  have HL := Lib.hid (hr.moved hb1)
  have HB := Lib.hid hb1; clear hb1
  go_enter Try.func57, Try.ntmps57
  go_wp2_with fail
  refine (sLadder_at ll n HN.out A c _ HL.out hl).mono ?_
  rintro e w' ⟨rfl, m, rfl⟩
  have HB2 := Lib.hid (below_draws HB.out m)
  cases hok : ladOk ll
  · have HE := Lib.hid (rcOk_no (r := r) (fun h => by rw [hok] at h; cases h.1)); clear hok
    go_wp2
    go_ret
    exact ⟨retb HE.out.symm, HB2.out⟩
  have HOK := Lib.hid hok; clear hok
  go_wp2_with fail
  refine (l6In_any r.area 0 n _).mono ?_
  rintro e w' ⟨rfl, rfl⟩
  cases h1 : in3 r.area 0 n
  · have HE := Lib.hid (rcOk_no (ll := ll) (r := r) (fun h => by rw [← HN.out, h1] at h; cases h.2.1)); clear h1
    go_wp2
    go_ret
    exact ⟨retb HE.out.symm, HB2.out⟩
  have H1 := Lib.hid h1; clear h1
  go_wp2_with fail
  refine (l6In_any r.job 0 1 _).mono ?_
  rintro e w' ⟨rfl, rfl⟩
  cases h2 : in3 r.job 0 1
  · have HE := Lib.hid (rcOk_no (ll := ll) (r := r) (fun h => by rw [h2] at h; cases h.2.2.1)); clear h2
    go_wp2
    go_ret
    exact ⟨retb HE.out.symm, HB2.out⟩
  have H2 := Lib.hid h2; clear h2
  go_wp2_with fail
  refine (l6In_any r.sex 0 1 _).mono ?_
  rintro e w' ⟨rfl, rfl⟩
  cases h3 : in3 r.sex 0 1
  · have HE := Lib.hid (rcOk_no (ll := ll) (r := r) (fun h => by rw [h3] at h; cases h.2.2.2)); clear h3
    go_wp2
    go_ret
    exact ⟨retb HE.out.symm, HB2.out⟩
  have H3 := Lib.hid h3; clear h3
  go_wp2
  go_ret
  exact ⟨retb (rcOk_parts.2 ⟨HOK.out, by rw [← HN.out]; exact H1.out, H2.out, H3.out⟩).symm, HB2.out⟩
theorem okP_area {p : Pn} (h : okP p = true) : 0 ≤ p.area ∧ p.area ≤ 3 := by simp [okP, inC] at h; omega
theorem rc_in {ll : List (List Int)} {r : Rc} (h : rcOk ll r = true) : ladOk ll = true ∧ 0 ≤ r.area ∧ r.area ≤ ll.length ∧ 0 ≤ r.job ∧ r.job ≤ 1 ∧ 0 ≤ r.sex ∧ r.sex ≤ 1 := by
  obtain ⟨h0, h1, h2, h3⟩ := rcOk_parts.1 h
  have a := in3_parts.1 h1; have b := in3_parts.1 h2; have c := in3_parts.1 h3
  exact ⟨h0, a.1, a.2, b.1, b.2, c.1, c.2⟩
abbrev TPn : TypeId := 32
set_option maxHeartbeats 1000000 in
theorem sRec_any (ll : List (List Int)) (n : Nat) (hn : n = ll.length) (A : Option Addr) (c : Nat) (r : Rc) (hrc : rcOk ll r = true) (p : Pn) (hp : okP p = true) (w : World) (hr : LL w w.heap.size A ll) :
    Calls Try.prog 45 #[p.val, .slice A n c, r.val] w fun e w' => e = .returned (rec1 ll r p).val ∧ Below w.heap.size w w' := by
  obtain ⟨h0, a0, a1, j0, j1, s0, s1⟩ := rc_in hrc
  obtain ⟨p0, p1⟩ := okP_area hp
  have HN := Lib.hid hn
  have HR := Lib.hid hr
  have H0 := Lib.hid h0
  clear hn hr h0 hrc hp
  obtain ⟨z, hz⟩ : ∃ z, codeAt ll r.area p.area = z := ⟨_, rfl⟩
  have HZ := Lib.hid hz; clear hz
  have hjob : r.job = 0 ∨ r.job = 1 := by omega
  have hsex : r.sex = 0 ∨ r.sex = 1 := by omega
  obtain ⟨ra, rj, rs⟩ := r
  obtain ⟨pa, pj, ps, pp⟩ := p
  simp only at a0 a1 p0 p1 hjob hsex HZ
  clear j0 j1 s0 s1
  rcases hjob with rfl | rfl <;> rcases hsex with rfl | rfl
  all_goals
    unfold Pn.val
    go_enter Try.func45, Try.ntmps45
    go_wp2_with fail
    refine (sCode_any ll H0.out A n c HN.out ra pa a0 a1 p0 p1 _ (HR.out.moved (((((Below.refl _ _).alloc (Nat.le_refl _) _).alloc (by simp) _).alloc (by simp; omega) _).alloc (by simp; omega) _))).mono ?_
    rintro e w' ⟨rfl, rfl⟩
    rw [HZ.out]
    go_wp2
    refine bodyPost_ret (v := Pn.val (rec1 ll _ ⟨pa, pj, ps, pp⟩)) (by simp [results, Try.results45, go_sem, rec1, HZ.out]) rfl ⟨rfl, ?_⟩
    repeat (first | exact Below.refl _ _ | refine Below.alloc ?_ (by simp; try omega) _ | refine Below.setCell ?_ (by simp; try omega) _)
theorem sRec_at (ll : List (List Int)) (n : Nat) (hn : n = ll.length) (A : Option Addr) (c : Nat) (r : Rc) (hrc : rcOk ll r = true) (p p' : Pn) (hp : okP p = true) (hp' : rec1 ll r p = p') (w : World) (hr : LL w w.heap.size A ll) :
    Calls Try.prog 45 #[p.val, .slice A n c, r.val] w fun e w' => e = .returned p'.val ∧ Below w.heap.size w w' := by subst hp'; exact sRec_any ll n hn A c r hrc p hp w hr
end Go.Proofs.Ytaaljmmnfgghfaa
namespace Go.Proofs.Ytaaljmmnfgghfaa
open Go.RowKit
theorem grOk_no1 {l : List Pn} {ll : List (List Int)} {r : Rc} (h : okL l = false) : grOk l ll r = false := by simp [grOk, h]
theorem sGrOk_any (l : List Pn) (q : Nat) (hq : q = l.length) (A : Option Addr) (c : Nat) (hlm : l.length ≤ maxLen) (ll : List (List Int)) (n : Nat) (hn : n = ll.length) (A2 : Option Addr) (c2 : Nat) (hl : ll.length ≤ maxLen) (r : Rc) (w : World)
    (hr : Row w w.heap.size A (pcells l)) (hll : LL w w.heap.size A2 ll) :
    Calls Try.prog 44 #[.slice A q c, .slice A2 n c2, r.val] w fun e w' => e = .returned (.bool (grOk l ll r)) ∧ Below w.heap.size w w' := by
  have HQ := Lib.hid hq; clear hq
  have HN := Lib.hid hn; clear hn
  have hb1 : Below w.heap.size w (w.alloc (.cells #[.int .i64 r.area, .int .i64 r.job, .int .i64 r.sex] TRc)) := (Below.refl _ _).alloc (Nat.le_refl _) _
  have HR := Lib.hid (hr.below hb1 (Nat.le_refl _))
  have HL := Lib.hid (hll.moved hb1)
  go_enter Try.func44, Try.ntmps44
  go_wp2_with fail
  refine ((by have h := sValid_any l A c _ (HR.out.more hb1.size) hlm; rw [← HQ.out] at h; exact h) : Calls Try.prog 56 #[.slice A q c] _ fun e w' => e = .returned (.bool (okL l)) ∧ Below (w.alloc (.cells #[.int .i64 r.area, .int .i64 r.job, .int .i64 r.sex] TRc)).heap.size (w.alloc (.cells #[.int .i64 r.area, .int .i64 r.job, .int .i64 r.sex] TRc)) w').mono ?_
  rintro e w2 ⟨rfl, h2⟩
  have HB := Lib.hid hb1
  have HB2 := Lib.hid (hb1.trans (h2.mono hb1.size))
  cases hok : okL l
  · have HE := Lib.hid (grOk_no1 (ll := ll) (r := r) hok); clear hok h2
    go_wp2
    go_ret
    exact ⟨retb HE.out.symm, HB2.out⟩
  have HOK := Lib.hid hok; clear hok
  have c0 : w2.cell? ⟨w.heap.size, 0, none⟩ = some (.int .i64 r.area) := by rw [h2.cell (p := ⟨w.heap.size, 0, none⟩) (by simp)]; simp [go_sem]
  have c1 : w2.cell? ⟨w.heap.size, 1, none⟩ = some (.int .i64 r.job) := by rw [h2.cell (p := ⟨w.heap.size, 1, none⟩) (by simp)]; simp [go_sem]
  have c2 : w2.cell? ⟨w.heap.size, 2, none⟩ = some (.int .i64 r.sex) := by rw [h2.cell (p := ⟨w.heap.size, 2, none⟩) (by simp)]; simp [go_sem]
  have hz : w.heap.size < w2.heap.size := by have := h2.size; simp at this; omega
  have HL2 := Lib.hid (HL.out.moved h2)
  clear h2 hb1
  go_wp2_with fail
  refine (sRcValid_any ll n HN.out A2 _ hl r _ HL2.out).mono ?_
  rintro e w3 ⟨rfl, h3⟩
  have HE := Lib.hid (show grOk l ll r = rcOk ll r by simp [grOk, HOK.out])
  go_wp2
  go_ret
  exact ⟨retb (by rw [HE.out]), bth HB2.out (by first | exact h3 | exact (h3.mono (by omega)))⟩
/-- A list that is the caller's own, and whether it was told. -/
def OutedP (m : List Pn) (t : Bool) (w : World) (e : Ending) (w' : World) : Prop := ∃ v, e = .returned (.tuple #[v, .bool t]) ∧ Own w' w.heap.size v m ∧ Below w.heap.size w w'
theorem ownP_less {w : World} {B B' : Nat} {v : Value} {l : List Pn} (h : Own w B v l) (hB : B' ≤ B) : Own w B' v l := by
  obtain ⟨h1, h2⟩ := h
  refine ⟨h1, ?_⟩
  rcases h2 with h2 | ⟨g, cap, cur, rfl, hg, r⟩
  · exact .inl h2
  · exact .inr ⟨g, cap, cur, rfl, by omega, r⟩
theorem ownP_below {w w' : World} {B : Nat} {v : Value} {l : List Pn} (h : Own w B v l) (hb : Below w.heap.size w w') : Own w' B v l := by
  obtain ⟨h1, h2⟩ := h
  refine ⟨h1, ?_⟩
  rcases h2 with h2 | ⟨g, cap, cur, rfl, hg, hh, r⟩
  · exact .inl h2
  · exact .inr ⟨g, cap, cur, rfl, hg, (hb.block g (Array.getElem?_eq_some_iff.1 hh).1).trans hh, r⟩
theorem rowP_new (w : World) (p : Pn) (t : TypeId) : Row (w.alloc (.cells #[.int .i64 p.area, .int .i64 p.job, .int .i64 p.sex, .int .i64 p.pay] t)) (w.heap.size + 1) (some ⟨w.heap.size, 0, none⟩) (pcells [p]) :=
  .inr ⟨_, 0, rfl, Nat.lt_succ_self _, fun j u hu => by
    rw [pcells_one] at hu
    have h := cells_at (W := w.alloc (.cells #[.int .i64 p.area, .int .i64 p.job, .int .i64 p.sex, .int .i64 p.pay] t)) (g := w.heap.size) (t := t) (heap_alloc_new w _) j u hu
    rwa [Addr.add_lit] at h⟩
set_option maxHeartbeats 1000000 in
theorem sRecPeople_yes (l : List Pn) (q : Nat) (hq : q = l.length) (A : Option Addr) (c : Nat) (ll : List (List Int)) (n : Nat) (hn : n = ll.length) (A2 : Option Addr) (c2 : Nat) (r : Rc) (hok : grOk l ll r = true) (w : World)
    (hr : Row w w.heap.size A (pcells l)) (hll : LL w w.heap.size A2 ll) :
    Calls Try.prog 29 #[.slice A q c, .slice A2 n c2, r.val] w (OutedP (recL ll r l) true w) := by
  have hgo : okL l = true ∧ rcOk ll r = true := by simpa [grOk] using hok
  have h40 := (okL_all hgo.1).1
  have hlm : l.length ≤ maxLen := by simp only [maxLen]; omega
  have hl3 := lad_len (rc_in hgo.2).1
  have hllm : ll.length ≤ maxLen := by simp only [maxLen]; omega
  have HALL := Lib.hid (okL_all hgo.1).2
  have HRC := Lib.hid hgo.2
  have HOK := Lib.hid hok
  have HQ := Lib.hid hq
  have HN := Lib.hid hn
  have hq40 : q ≤ 40 := by omega
  clear hgo hok hq hn
  obtain ⟨W, hW⟩ : ∃ W, W = (w.alloc (.cells #[.int .i64 r.area, .int .i64 r.job, .int .i64 r.sex] TRc)) := ⟨_, rfl⟩
  have hb1 : Below w.heap.size w W := by rw [hW]; exact (Below.refl _ _).alloc (Nat.le_refl _) _
  have d0 : W.cell? ⟨w.heap.size, 0, none⟩ = some (.int .i64 r.area) := by rw [hW]; simp [go_sem]
  have d1 : W.cell? ⟨w.heap.size, 1, none⟩ = some (.int .i64 r.job) := by rw [hW]; simp [go_sem]
  have d2 : W.cell? ⟨w.heap.size, 2, none⟩ = some (.int .i64 r.sex) := by rw [hW]; simp [go_sem]
  have hz : w.heap.size < W.heap.size := by rw [hW]; simp
  have HWZ := Lib.hid (show W.heap.size = w.heap.size + 1 by rw [hW]; simp)
  have HR := Lib.hid ((hr.below hb1 (Nat.le_refl _)).more hb1.size)
  have HL := Lib.hid (hll.moved hb1)
  have HB := Lib.hid hb1
  clear hr hll hb1
  go_enter Try.func29, Try.ntmps29
  go_wp2_with fail
  rw [← hW]
  clear hW
  have hnew : Below W.heap.size W (W.alloc (.cells #[] TP)) := (Below.refl _ _).alloc (Nat.le_refl _) _
  refine (sGrOk_any l q HQ.out A c hlm ll n HN.out A2 c2 hllm r _ ((HR.out.below hnew (Nat.le_refl _)).more hnew.size) (HL.out.moved hnew)).mono ?_
  rintro e w2 ⟨rfl, h2⟩
  rw [HOK.out]
  have HO := Lib.hid (ownP_below (own_new W W (Below.refl _ _)) h2)
  have HB2 := Lib.hid (hnew.trans (h2.mono hnew.size))
  clear h2 hnew
  go_wp2
  go_loopw [8, 9] (fun v i wr => ∃ k : Nat, k ≤ q ∧ i = .int .i64 k ∧ Own wr W.heap.size v (recL ll r (l.take k)) ∧ Below W.heap.size W wr) (fun _ i _ => q - (intOf i).toNat)
  case atStart => exact ⟨0, Nat.zero_le _, rfl, by rw [← HWZ.out]; simpa [recL] using HO.out, HB2.out⟩
  case round =>
    obtain ⟨k, hk, rfl, ho, hb⟩ := hrel
    clear HO HB2
    have HO := Lib.hid ho; clear ho
    have HB2 := Lib.hid hb
    have hz2 := hb.size
    have HLEN := Lib.hid (show (recL ll r (l.take k)).length + 1 ≤ 1000000 by rw [recL_len]; have := List.length_take_le k l; omega)
    by_cases hlt : k < q
    · have hki : (k : Int) < (q : Int) := by omega
      have hkl : k < l.length := by rw [← HQ.out]; exact hlt
      obtain ⟨b, o, rfl, hbw, c0, c1, c2', c3⟩ := HR.out.at_ k hkl
      have hpk : okP l[k] = true := List.all_eq_true.1 HALL.out l[k] (List.getElem_mem hkl)
      have HPK := Lib.hid hpk
      have HT := Lib.hid (recL_take ll r l k hkl)
      have HLL := Lib.hid (HL.out.moved hb)
      clear hpk
      obtain ⟨p, hp⟩ : ∃ p, l[k] = p := ⟨_, rfl⟩
      rw [hp] at c0 c1 c2' c3 HPK HT
      clear hp
      obtain ⟨p', hp'⟩ : ∃ p', rec1 ll r p = p' := ⟨_, rfl⟩
      rw [hp'] at HT
      have HP' := Lib.hid hp'; clear hp'
      have HF := Lib.hid (show ∀ w' : World, Below W.heap.size W w' → (Below W.heap.size W w' ∧ w'.cell? ⟨b, o + k * 4, none⟩ = some (.int .i64 p.area) ∧ w'.cell? ⟨b, o + k * 4 + 1, none⟩ = some (.int .i64 p.job) ∧ w'.cell? ⟨b, o + k * 4 + 2, none⟩ = some (.int .i64 p.sex) ∧ w'.cell? ⟨b, o + k * 4 + 3, none⟩ = some (.int .i64 p.pay) ∧ w'.cell? ⟨w.heap.size, 0, none⟩ = some (.int .i64 r.area) ∧ w'.cell? ⟨w.heap.size, 1, none⟩ = some (.int .i64 r.job) ∧ w'.cell? ⟨w.heap.size, 2, none⟩ = some (.int .i64 r.sex)) from
        fun w' h => ⟨h, (h.cell hbw).trans c0, (h.cell hbw).trans c1, (h.cell hbw).trans c2', (h.cell hbw).trans c3, (h.cell (p := ⟨w.heap.size, 0, none⟩) hz).trans d0, (h.cell (p := ⟨w.heap.size, 1, none⟩) hz).trans d1, (h.cell (p := ⟨w.heap.size, 2, none⟩) hz).trans d2⟩)
      have b0 : Below W.heap.size W wr.drew := hb.drew
      clear c0 c1 c2' c3 d0 d1 d2 hb
      go_wp2
      go_region_held3 (fun w' => Below W.heap.size W w' ∧ w'.cell? ⟨b, o + k * 4, none⟩ = some (.int .i64 p.area) ∧ w'.cell? ⟨b, o + k * 4 + 1, none⟩ = some (.int .i64 p.job) ∧ w'.cell? ⟨b, o + k * 4 + 2, none⟩ = some (.int .i64 p.sex) ∧ w'.cell? ⟨b, o + k * 4 + 3, none⟩ = some (.int .i64 p.pay) ∧ w'.cell? ⟨w.heap.size, 0, none⟩ = some (.int .i64 r.area) ∧ w'.cell? ⟨w.heap.size, 1, none⟩ = some (.int .i64 r.job) ∧ w'.cell? ⟨w.heap.size, 2, none⟩ = some (.int .i64 r.sex))
        (first | exact HF.out _ (by assumption) | exact HF.out _ b0 | exact HF.out _ (Below.alloc (by assumption) (Below.size (by assumption)) _))
        (first
          | (go_at_call 45
             refine (sRec_at ll n HN.out A2 c2 r HRC.out p p' HPK.out HP'.out _ (show LL wr.drew wr.drew.heap.size A2 ll from HLL.out)).mono ?_
             rintro e w3 ⟨rfl, h3⟩
             have h3' : Below W.heap.size W w3 := b0.trans (h3.mono b0.size)
             have HO3 := Lib.hid (ownP_below (w := wr.drew) HO.out h3)
             have HB3 := Lib.hid h3'
             clear h3)
          | (refine step_people rfl (.tmp 23) (.tmp 31) rfl W.heap.size _ _ rfl (HO3.out.alloc _) (w3.heap.size + 1) (some ⟨w3.heap.size, 0, none⟩) 1 1 [p'] rfl rfl (rowP_new w3 _ _) HLEN.out (by have := HB3.out.size; simp; omega) ?_
             intro v4 w4 ho4 hg4
             have HB4 := Lib.hid (below_own (HB3.out.alloc HB3.out.size _) (HO3.out.alloc _) hg4)
             have h4' : Below W.heap.size W w4 := HB4.out
             have HO4 := Lib.hid ho4
             clear ho4 hg4))
      go_wp2
      go_roundw
      case rel => exact ⟨k + 1, by omega, by go_num, by rw [HT.out]; exact HO4.out, HB4.out⟩
      case measure => simp [intOf]; omega
    · have hkq : k = q := by omega
      have ht : l.take k = l := List.take_of_length_le (by rw [← HQ.out]; omega)
      rw [ht] at HO
      go_wp2
      go_ret2
      exact ⟨_, rfl, ownP_less HO.out (Nat.le_of_lt hz), HB.out.trans (HB2.out.mono (Nat.le_of_lt hz))⟩
theorem sRecPeople_no (l : List Pn) (q : Nat) (hq : q = l.length) (A : Option Addr) (c : Nat) (hlm : l.length ≤ maxLen) (ll : List (List Int)) (n : Nat) (hn : n = ll.length) (A2 : Option Addr) (c2 : Nat) (hl : ll.length ≤ maxLen) (r : Rc) (hok : grOk l ll r = false) (w : World)
    (hr : Row w w.heap.size A (pcells l)) (hll : LL w w.heap.size A2 ll) :
    Calls Try.prog 29 #[.slice A q c, .slice A2 n c2, r.val] w (OutedP [] false w) := by
  have HOK := Lib.hid hok
  have HQ := Lib.hid hq
  have HN := Lib.hid hn
  clear hok hq hn
  obtain ⟨W, hW⟩ : ∃ W, W = (w.alloc (.cells #[.int .i64 r.area, .int .i64 r.job, .int .i64 r.sex] TRc)) := ⟨_, rfl⟩
  have hb1 : Below w.heap.size w W := by rw [hW]; exact (Below.refl _ _).alloc (Nat.le_refl _) _
  have HWZ := Lib.hid (show W.heap.size = w.heap.size + 1 by rw [hW]; simp)
  have HR := Lib.hid ((hr.below hb1 (Nat.le_refl _)).more hb1.size)
  have HL := Lib.hid (hll.moved hb1)
  have HB := Lib.hid hb1
  clear hr hll
  go_enter Try.func29, Try.ntmps29
  go_wp2_with fail
  rw [← hW]
  clear hW
  have hnew : Below W.heap.size W (W.alloc (.cells #[] TP)) := (Below.refl _ _).alloc (Nat.le_refl _) _
  refine (sGrOk_any l q HQ.out A c hlm ll n HN.out A2 c2 hl r _ ((HR.out.below hnew (Nat.le_refl _)).more hnew.size) (HL.out.moved hnew)).mono ?_
  rintro e w2 ⟨rfl, h2⟩
  rw [HOK.out]
  have HO := Lib.hid (ownP_less (ownP_below (own_new W W (Below.refl _ _)) h2) hb1.size)
  have HB2 := Lib.hid (hb1.trans ((hnew.trans (h2.mono hnew.size)).mono hb1.size))
  clear h2 hnew hb1
  go_wp2
  go_ret2
  exact ⟨_, rfl, by have h := HO.out; rw [HWZ.out] at h; exact h, HB2.out⟩
end Go.Proofs.Ytaaljmmnfgghfaa
namespace Go.Proofs.Ytaaljmmnfgghfaa
open Go.RowKit
theorem sSame_any (a b : Pn) (w : World) : Calls Try.prog 46 #[a.val, b.val] w fun e w' => e = .returned (.bool (decide (key a = key b))) ∧ Below w.heap.size w w' := by
  unfold Pn.val
  go_enter Try.func46, Try.ntmps46
  go_wp2
  all_goals
    go_ret
    exact ⟨retb (by rw [Bool.eq_iff_iff]; simp [key, *]), ((Below.refl _ _).alloc (Nat.le_refl _) _).alloc (by simp) _⟩
theorem sSame_at (a b : Pn) (t : Bool) (ht : decide (key a = key b) = t) (w : World) : Calls Try.prog 46 #[a.val, b.val] w fun e w' => e = .returned (.bool t) ∧ Below w.heap.size w w' := by subst ht; exact sSame_any a b w
set_option maxHeartbeats 1000000 in
theorem sSize_any (x : List Pn) (q : Nat) (hq : q = x.length) (A : Option Addr) (c k : Nat) (_hk : k < q) (hlm : x.length ≤ 1000000) (w : World) (hr : Row w w.heap.size A (pcells x)) :
    Calls Try.prog 43 #[.slice A q c, .int .i64 k] w fun e w' => e = .returned (.int .i64 (sizeAt x k)) ∧ Below w.heap.size w w' := by
  have HQ := Lib.hid hq
  have hq1 : q ≤ 1000000 := by omega
  have hkx : k < x.length := by omega
  have hki : (k : Int) < (q : Int) := by omega
  have HALL := Lib.hid (sizeTo_all x k)
  obtain ⟨b, o, rfl, hbw, c0, c1, c2, c3⟩ := hr.at_ k hkx
  have hgk : x.getD k p00 = x[k] := by rw [List.getD_eq_getElem?_getD, List.getElem?_eq_getElem hkx]; rfl
  have HGK := Lib.hid hgk
  clear hgk hq
  go_enter Try.func43, Try.ntmps43
  go_wp2
  go_loopw [5, 6] (fun v i wr => ∃ j : Nat, j ≤ q ∧ i = .int .i64 j ∧ v = .int .i64 (sizeTo x k j) ∧ Below w.heap.size w wr) (fun _ i _ => q - (intOf i).toNat)
  case atStart => exact ⟨0, Nat.zero_le _, rfl, by simp [sizeTo, keys, cn], Below.refl _ _⟩
  case round =>
    obtain ⟨j, hj, rfl, rfl, hb⟩ := hrel
    have hle := sizeTo_le x k j
    by_cases hlt : j < q
    · have hji : (j : Int) < (q : Int) := by omega
      have hjx : j < x.length := by rw [← HQ.out]; exact hlt
      obtain ⟨b2, o2, hA, _, e0, e1, e2, e3⟩ := hr.at_ j hjx
      injection hA with hA
      injection hA with g1 g2 _
      subst g1 g2
      have HS := Lib.hid (sizeTo_succ x k j hjx)
      have hkk : key (x.getD k p00) = key x[k] := by rw [HGK.out]
      obtain ⟨p, hp⟩ : ∃ p, x[k] = p := ⟨_, rfl⟩
      obtain ⟨p2, hp2⟩ : ∃ p2, x[j] = p2 := ⟨_, rfl⟩
      rw [hp] at hkk c0 c1 c2 c3
      rw [hp2] at e0 e1 e2 e3 HS
      rw [hkk] at HS
      have HF := Lib.hid (show ∀ w' : World, Below w.heap.size w w' → (Below w.heap.size w w' ∧ (w'.cell? ⟨b, o + k * 4, none⟩ = some (.int .i64 p.area) ∧ w'.cell? ⟨b, o + k * 4 + 1, none⟩ = some (.int .i64 p.job) ∧ w'.cell? ⟨b, o + k * 4 + 2, none⟩ = some (.int .i64 p.sex) ∧ w'.cell? ⟨b, o + k * 4 + 3, none⟩ = some (.int .i64 p.pay)) ∧ w'.cell? ⟨b, o + j * 4, none⟩ = some (.int .i64 p2.area) ∧ w'.cell? ⟨b, o + j * 4 + 1, none⟩ = some (.int .i64 p2.job) ∧ w'.cell? ⟨b, o + j * 4 + 2, none⟩ = some (.int .i64 p2.sex) ∧ w'.cell? ⟨b, o + j * 4 + 3, none⟩ = some (.int .i64 p2.pay)) from
        fun w' h => ⟨h, ⟨(h.cell hbw).trans c0, (h.cell hbw).trans c1, (h.cell hbw).trans c2, (h.cell hbw).trans c3⟩, (h.cell hbw).trans e0, (h.cell hbw).trans e1, (h.cell hbw).trans e2, (h.cell hbw).trans e3⟩)
      have b0 : Below w.heap.size w wr.drew := hb.drew
      obtain ⟨s, hs⟩ : ∃ s, sizeTo x k j = s := ⟨_, rfl⟩
      rw [hs] at hle HS ⊢
      clear e0 e1 e2 e3 hp hp2 hkk hs
      obtain ⟨t, ht⟩ : ∃ t, decide (key p2 = key p) = t := ⟨_, rfl⟩
      have HT := Lib.hid ht
      have HS2 := Lib.hid (show sizeTo x k (j + 1) = s + if t = true then 1 else 0 by rw [HS.out, ← ht]; simp)
      clear ht HS
      go_wp2
      go_region_held3 (fun w' => (Below w.heap.size w w' ∧ (w'.cell? ⟨b, o + k * 4, none⟩ = some (.int .i64 p.area) ∧ w'.cell? ⟨b, o + k * 4 + 1, none⟩ = some (.int .i64 p.job) ∧ w'.cell? ⟨b, o + k * 4 + 2, none⟩ = some (.int .i64 p.sex) ∧ w'.cell? ⟨b, o + k * 4 + 3, none⟩ = some (.int .i64 p.pay)) ∧ w'.cell? ⟨b, o + j * 4, none⟩ = some (.int .i64 p2.area) ∧ w'.cell? ⟨b, o + j * 4 + 1, none⟩ = some (.int .i64 p2.job) ∧ w'.cell? ⟨b, o + j * 4 + 2, none⟩ = some (.int .i64 p2.sex) ∧ w'.cell? ⟨b, o + j * 4 + 3, none⟩ = some (.int .i64 p2.pay)))
        (first | exact HF.out _ (by assumption) | exact HF.out _ b0)
        (first
          | (go_at_call 46
             refine (sSame_at p2 p t HT.out _).mono ?_
             rintro e w3 ⟨rfl, h3⟩
             have h3' : Below w.heap.size w w3 := b0.trans (h3.mono b0.size)
             clear h3))
      cases t
      all_goals
        go_wp2
        go_roundw
        case rel => exact ⟨j + 1, by omega, by go_num, by rw [HS2.out]; simp, by assumption⟩
        case measure => simp [intOf]; omega
    · have hjq : j = x.length := by rw [← HQ.out]; omega
      have hall := HALL.out
      rw [← hjq] at hall
      rw [hall]
      go_wp2
      go_ret
      exact ⟨rfl, hb⟩
end Go.Proofs.Ytaaljmmnfgghfaa
namespace Go.Proofs.Ytaaljmmnfgghfaa
open Go.RowKit
theorem sizeAt_le (x : List Pn) (k : Nat) : sizeAt x k ≤ x.length := by
  have h := cn_le (keys x) (key (x.getD k p00))
  have h2 : (keys x).length = x.length := by simp [keys]
  unfold sizeAt; omega
theorem sSize_at (W : World) (x : List Pn) (q : Nat) (hq : q = x.length) (A : Option Addr) (c k : Nat) (hk : k < q) (hlm : x.length ≤ 1000000) (s : Nat) (hs : sizeAt x k = s) (hr : Row W W.heap.size A (pcells x)) (w : World) (hb : Below W.heap.size W w) :
    Calls Try.prog 43 #[.slice A q c, .int .i64 k] w fun e w' => e = .returned (.int .i64 s) ∧ Below W.heap.size W w' := by
  subst hs; exact (sSize_any x q hq A c k hk hlm w ((hr.below hb (Nat.le_refl _)).more hb.size)).mono fun e w' ⟨h1, h2⟩ => ⟨h1, hb.trans (h2.mono hb.size)⟩
theorem sizeAt_take (x : List Pn) (k : Nat) : sizeAt (x.take (k + 1)) k = sizeTo x k (k + 1) := by
  unfold sizeAt sizeTo
  have e : (x.take (k + 1)).getD k p00 = x.getD k p00 := by rw [List.getD_eq_getElem?_getD, List.getElem?_take, if_pos (by omega), List.getD_eq_getElem?_getD]
  rw [e]
/-- The first people. -/
theorem Row.frontP {w : World} {B : Nat} {A : Option Addr} {l : List Pn} {k : Nat} (h : Row w B A (pcells l)) : Row w B A (pcells (l.take k)) := by
  rcases h with h | ⟨b, o, rfl, hb, hcell⟩
  · left
    have := pcells_length l; rw [h] at this; simp at this
    have hn : l = [] := List.eq_nil_of_length_eq_zero (by omega)
    rw [hn]; simp [pcells]
  · right
    refine ⟨b, o, rfl, hb, fun j u hu => hcell j u ?_⟩
    have h1 : pcells l = pcells (l.take k) ++ pcells (l.drop k) := by simp only [pcells, ← List.flatMap_append, List.take_append_drop]
    rw [h1, List.getElem?_append_left (List.getElem?_eq_some_iff.1 hu).1]; exact hu
set_option maxHeartbeats 1000000 in
theorem sGSize_any (l : List Pn) (q : Nat) (hq : q = l.length) (A : Option Addr) (c : Nat) (hlm : l.length ≤ maxLen) (ll : List (List Int)) (n : Nat) (hn : n = ll.length) (A2 : Option Addr) (c2 : Nat) (hl : ll.length ≤ maxLen) (r : Rc) (k : Int) (w : World) (hr : Row w w.heap.size A (pcells l)) (hll : LL w w.heap.size A2 ll) :
    Calls Try.prog 28 #[.slice A q c, .slice A2 n c2, r.val, .int .i64 k] w fun e w' => e = .returned (.int .i64 (gsize l ll r k)) ∧ Below w.heap.size w w' := by
  have HQ := Lib.hid hq
  have HN := Lib.hid hn
  clear hq hn
  obtain ⟨W, hW⟩ : ∃ W, W = (w.alloc (.cells #[.int .i64 r.area, .int .i64 r.job, .int .i64 r.sex] TRc)) := ⟨_, rfl⟩
  have hb1 : Below w.heap.size w W := by rw [hW]; exact (Below.refl _ _).alloc (Nat.le_refl _) _
  have HR := Lib.hid ((hr.below hb1 (Nat.le_refl _)).more hb1.size)
  have HL := Lib.hid (hll.moved hb1)
  have HB := Lib.hid hb1
  clear hr hll hb1
  have hlm2 : q ≤ 2 ^ 63 - 1 := by rw [HQ.out]; exact hlm
  cases hok : grOk l ll r
  · have HE := Lib.hid (show gsize l ll r k = -1 by simp [gsize, hok])
    have HOK := Lib.hid hok; clear hok
    go_enter Try.func28, Try.ntmps28
    go_wp2_with fail
    rw [← hW]
    clear hW
    refine (sRecPeople_no l q HQ.out A c hlm ll n HN.out A2 c2 hl r HOK.out _ HR.out HL.out).mono ?_
    rintro e w2 ⟨v, rfl, _, h2⟩
    have HB2 := Lib.hid (HB.out.trans (h2.mono HB.out.size)); clear h2
    go_wp2
    go_ret
    exact ⟨reti HE.out.symm, HB2.out⟩
  · have HOK := Lib.hid hok
    have h40 : l.length ≤ 40 := by have h : okL l = true ∧ rcOk ll r = true := by simpa [grOk] using hok
                                   exact (okL_all h.1).1
    have hq40 : q ≤ 40 := by rw [HQ.out]; exact h40
    clear hok
    go_enter Try.func28, Try.ntmps28
    go_wp2_with fail
    rw [← hW]
    clear hW
    refine (sRecPeople_yes l q HQ.out A c ll n HN.out A2 c2 r HOK.out _ HR.out HL.out).mono ?_
    rintro e w2 ⟨v, rfl, ho2, h2⟩
    obtain ⟨x, hx⟩ : ∃ x, recL ll r l = x := ⟨_, rfl⟩
    rw [hx] at ho2
    have HX := Lib.hid hx
    have HXL := Lib.hid (show q = x.length by rw [← hx, recL_len, HQ.out])
    have hx6 : x.length ≤ 1000000 := by rw [← HXL.out]; omega
    clear hx
    obtain ⟨Ax, cx, hv, hc1, hc2, hrx, _⟩ := ho2.form
    rw [← HXL.out] at hv hc1
    subst hv
    have HRX := Lib.hid hrx
    have HB2 := Lib.hid (HB.out.trans (h2.mono HB.out.size))
    clear h2 ho2 hrx
    go_wp2_with fail
    refine (l6In_any k 0 ((q : Int) - 1) _).mono ?_
    rintro e w' ⟨rfl, rfl⟩
    cases hin : in3 k 0 ((q : Int) - 1)
    · have HE := Lib.hid (show gsize l ll r k = -1 by rw [HQ.out] at hin; simp [gsize, hin])
      clear hin
      go_wp2
      go_ret
      exact ⟨reti HE.out.symm, HB2.out⟩
    · have hk := in3_parts.1 hin
      rw [HQ.out] at hin
      obtain ⟨k, rfl⟩ := Int.eq_ofNat_of_zero_le hk.1
      have hkq : k < q := by omega
      have HE := Lib.hid (show gsize l ll r k = sizeAt x k by rw [gsize, HOK.out, hin, HX.out]; simp)
      clear hin hk
      go_wp2_with fail
      refine (sSize_at w2 x q HXL.out Ax cx k hkq hx6 _ rfl HRX.out _ (Below.refl _ _)).mono ?_
      rintro e w3 ⟨rfl, hb3⟩
      go_wp2
      go_ret
      exact ⟨reti HE.out.symm, HB2.out.trans (hb3.mono HB2.out.size)⟩
end Go.Proofs.Ytaaljmmnfgghfaa
namespace Go.Proofs.Ytaaljmmnfgghfaa
open Go.RowKit
theorem finer_no {ll : List (List Int)} {a b : Rc} (h : rcOk ll a = false ∨ rcOk ll b = false) : rcFiner ll a b = false := by
  rcases h with h | h <;> simp [rcFiner, h]
end Go.Proofs.Ytaaljmmnfgghfaa
