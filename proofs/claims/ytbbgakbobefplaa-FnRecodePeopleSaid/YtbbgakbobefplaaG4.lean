/- Contracts of the model: recoded people. -/
import Derived.Test.YtbbgakbobefplaaG3
import Derived.Test.YtbbgakbobefplaaAppB
namespace Go.Proofs.Ytbbgakbobefplaa
open Go.RowKit
theorem grOk_no1 {l : List Pn} {ll : List (List Int)} {r : Rc} (h : okL l = false) : grOk l ll r = false := by simp [grOk, h]
theorem sGrOk_any (l : List Pn) (q : Nat) (hq : q = l.length) (A : Option Addr) (c : Nat) (hlm : l.length ≤ maxLen) (ll : List (List Int)) (n : Nat) (hn : n = ll.length) (A2 : Option Addr) (c2 : Nat) (hl : ll.length ≤ maxLen) (r : Rc) (w : World)
    (hr : Row w w.heap.size A (pcells l)) (hll : LL w w.heap.size A2 ll) :
    Calls Try.prog 34 #[.slice A q c, .slice A2 n c2, r.val] w fun e w' => e = .returned (.bool (grOk l ll r)) ∧ Below w.heap.size w w' := by
  have HQ := Lib.hid hq; clear hq
  have HN := Lib.hid hn; clear hn
  have hb1 : Below w.heap.size w (w.alloc (.cells #[.int .i64 r.area, .int .i64 r.job, .int .i64 r.sex] TRc)) := (Below.refl _ _).alloc (Nat.le_refl _) _
  have HR := Lib.hid (hr.below hb1 (Nat.le_refl _))
  have HL := Lib.hid (hll.moved hb1)
  go_enter Try.func34, Try.ntmps34
  go_wp2_with fail
  refine ((by have h := sValid_any l A c _ (HR.out.more hb1.size) hlm; rw [← HQ.out] at h; exact h) : Calls Try.prog 50 #[.slice A q c] _ fun e w' => e = .returned (.bool (okL l)) ∧ Below (w.alloc (.cells #[.int .i64 r.area, .int .i64 r.job, .int .i64 r.sex] TRc)).heap.size (w.alloc (.cells #[.int .i64 r.area, .int .i64 r.job, .int .i64 r.sex] TRc)) w').mono ?_
  rintro e w2 ⟨rfl, h2⟩
  have HB := Lib.hid hb1
  have HB2 := Lib.hid (hb1.trans (h2.mono hb1.size))
  cases hok : okL l
  · have HE := Lib.hid (grOk_no1 (ll := ll) (r := r) hok); clear hok h2
    go_wp2
    go_ret
    exact ⟨retb HE.out.symm, HB2.out⟩
  have HOK := Lib.hid hok; clear hok
  have c0 : w2.cell? ⟨w.heap.size, 0, none⟩ = some (.int .i64 r.area) := by rw [h2.cell (p := ⟨w.heap.size, 0, none⟩) (by simp)]; simp [go_sem]
  have c1 : w2.cell? ⟨w.heap.size, 1, none⟩ = some (.int .i64 r.job) := by rw [h2.cell (p := ⟨w.heap.size, 1, none⟩) (by simp)]; simp [go_sem]
  have c2 : w2.cell? ⟨w.heap.size, 2, none⟩ = some (.int .i64 r.sex) := by rw [h2.cell (p := ⟨w.heap.size, 2, none⟩) (by simp)]; simp [go_sem]
  have hz : w.heap.size < w2.heap.size := by have := h2.size; simp at this; omega
  have HL2 := Lib.hid (HL.out.moved h2)
  clear h2 hb1
  go_wp2_with fail
  refine (sRcValid_any ll n HN.out A2 _ hl r _ HL2.out).mono ?_
  rintro e w3 ⟨rfl, h3⟩
  have HE := Lib.hid (show grOk l ll r = rcOk ll r by simp [grOk, HOK.out])
  go_wp2
  go_ret
  exact ⟨retb (by rw [HE.out]), bth HB2.out (by first | exact h3 | exact (h3.mono (by omega)))⟩
/-- A list that is the caller's own, and whether it was told. -/
def OutedP (m : List Pn) (t : Bool) (w : World) (e : Ending) (w' : World) : Prop := ∃ v, e = .returned (.tuple #[v, .bool t]) ∧ Own w' w.heap.size v m ∧ Below w.heap.size w w'
theorem ownP_less {w : World} {B B' : Nat} {v : Value} {l : List Pn} (h : Own w B v l) (hB : B' ≤ B) : Own w B' v l := by
  obtain ⟨h1, h2⟩ := h
  refine ⟨h1, ?_⟩
  rcases h2 with h2 | ⟨g, cap, cur, rfl, hg, r⟩
  · exact .inl h2
  · exact .inr ⟨g, cap, cur, rfl, by omega, r⟩
theorem ownP_below {w w' : World} {B : Nat} {v : Value} {l : List Pn} (h : Own w B v l) (hb : Below w.heap.size w w') : Own w' B v l := by
  obtain ⟨h1, h2⟩ := h
  refine ⟨h1, ?_⟩
  rcases h2 with h2 | ⟨g, cap, cur, rfl, hg, hh, r⟩
  · exact .inl h2
  · exact .inr ⟨g, cap, cur, rfl, hg, (hb.block g (Array.getElem?_eq_some_iff.1 hh).1).trans hh, r⟩
theorem rowP_new (w : World) (p : Pn) (t : TypeId) : Row (w.alloc (.cells #[.int .i64 p.area, .int .i64 p.job, .int .i64 p.sex, .int .i64 p.pay] t)) (w.heap.size + 1) (some ⟨w.heap.size, 0, none⟩) (pcells [p]) :=
  .inr ⟨_, 0, rfl, Nat.lt_succ_self _, fun j u hu => by
    rw [pcells_one] at hu
    have h := cells_at (W := w.alloc (.cells #[.int .i64 p.area, .int .i64 p.job, .int .i64 p.sex, .int .i64 p.pay] t)) (g := w.heap.size) (t := t) (heap_alloc_new w _) j u hu
    rwa [Addr.add_lit] at h⟩
set_option maxHeartbeats 1000000 in
theorem sRecPeople_yes (l : List Pn) (q : Nat) (hq : q = l.length) (A : Option Addr) (c : Nat) (ll : List (List Int)) (n : Nat) (hn : n = ll.length) (A2 : Option Addr) (c2 : Nat) (r : Rc) (hok : grOk l ll r = true) (w : World)
    (hr : Row w w.heap.size A (pcells l)) (hll : LL w w.heap.size A2 ll) :
    Calls Try.prog 16 #[.slice A q c, .slice A2 n c2, r.val] w (OutedP (recL ll r l) true w) := by
  have hgo : okL l = true ∧ rcOk ll r = true := by simpa [grOk] using hok
  have h40 := (okL_all hgo.1).1
  have hlm : l.length ≤ maxLen := by simp only [maxLen]; omega
  have hl3 := lad_len (rc_in hgo.2).1
  have hllm : ll.length ≤ maxLen := by simp only [maxLen]; omega
  have HALL := Lib.hid (okL_all hgo.1).2
  have HRC := Lib.hid hgo.2
  have HOK := Lib.hid hok
  have HQ := Lib.hid hq
  have HN := Lib.hid hn
  have hq40 : q ≤ 40 := by omega
  clear hgo hok hq hn
  obtain ⟨W, hW⟩ : ∃ W, W = (w.alloc (.cells #[.int .i64 r.area, .int .i64 r.job, .int .i64 r.sex] TRc)) := ⟨_, rfl⟩
  have hb1 : Below w.heap.size w W := by rw [hW]; exact (Below.refl _ _).alloc (Nat.le_refl _) _
  have d0 : W.cell? ⟨w.heap.size, 0, none⟩ = some (.int .i64 r.area) := by rw [hW]; simp [go_sem]
  have d1 : W.cell? ⟨w.heap.size, 1, none⟩ = some (.int .i64 r.job) := by rw [hW]; simp [go_sem]
  have d2 : W.cell? ⟨w.heap.size, 2, none⟩ = some (.int .i64 r.sex) := by rw [hW]; simp [go_sem]
  have hz : w.heap.size < W.heap.size := by rw [hW]; simp
  have HWZ := Lib.hid (show W.heap.size = w.heap.size + 1 by rw [hW]; simp)
  have HR := Lib.hid ((hr.below hb1 (Nat.le_refl _)).more hb1.size)
  have HL := Lib.hid (hll.moved hb1)
  have HB := Lib.hid hb1
  clear hr hll hb1
  go_enter Try.func16, Try.ntmps16
  go_wp2_with fail
  rw [← hW]
  clear hW
  have hnew : Below W.heap.size W (W.alloc (.cells #[] TP)) := (Below.refl _ _).alloc (Nat.le_refl _) _
  refine (sGrOk_any l q HQ.out A c hlm ll n HN.out A2 c2 hllm r _ ((HR.out.below hnew (Nat.le_refl _)).more hnew.size) (HL.out.moved hnew)).mono ?_
  rintro e w2 ⟨rfl, h2⟩
  rw [HOK.out]
  have HO := Lib.hid (ownP_below (own_new W W (Below.refl _ _)) h2)
  have HB2 := Lib.hid (hnew.trans (h2.mono hnew.size))
  clear h2 hnew
  go_wp2
  go_loopw [8, 9] (fun v i wr => ∃ k : Nat, k ≤ q ∧ i = .int .i64 k ∧ Own wr W.heap.size v (recL ll r (l.take k)) ∧ Below W.heap.size W wr) (fun _ i _ => q - (intOf i).toNat)
  case atStart => exact ⟨0, Nat.zero_le _, rfl, by rw [← HWZ.out]; simpa [recL] using HO.out, HB2.out⟩
  case round =>
    obtain ⟨k, hk, rfl, ho, hb⟩ := hrel
    clear HO HB2
    have HO := Lib.hid ho; clear ho
    have HB2 := Lib.hid hb
    have hz2 := hb.size
    have HLEN := Lib.hid (show (recL ll r (l.take k)).length + 1 ≤ 1000000 by rw [recL_len]; have := List.length_take_le k l; omega)
    by_cases hlt : k < q
    · have hki : (k : Int) < (q : Int) := by omega
      have hkl : k < l.length := by rw [← HQ.out]; exact hlt
      obtain ⟨b, o, rfl, hbw, c0, c1, c2', c3⟩ := HR.out.at_ k hkl
      have hpk : okP l[k] = true := List.all_eq_true.1 HALL.out l[k] (List.getElem_mem hkl)
      have HPK := Lib.hid hpk
      have HT := Lib.hid (recL_take ll r l k hkl)
      have HLL := Lib.hid (HL.out.moved hb)
      clear hpk
      obtain ⟨p, hp⟩ : ∃ p, l[k] = p := ⟨_, rfl⟩
      rw [hp] at c0 c1 c2' c3 HPK HT
      clear hp
      obtain ⟨p', hp'⟩ : ∃ p', rec1 ll r p = p' := ⟨_, rfl⟩
      rw [hp'] at HT
      have HP' := Lib.hid hp'; clear hp'
      have HF := Lib.hid (show ∀ w' : World, Below W.heap.size W w' → (Below W.heap.size W w' ∧ w'.cell? ⟨b, o + k * 4, none⟩ = some (.int .i64 p.area) ∧ w'.cell? ⟨b, o + k * 4 + 1, none⟩ = some (.int .i64 p.job) ∧ w'.cell? ⟨b, o + k * 4 + 2, none⟩ = some (.int .i64 p.sex) ∧ w'.cell? ⟨b, o + k * 4 + 3, none⟩ = some (.int .i64 p.pay) ∧ w'.cell? ⟨w.heap.size, 0, none⟩ = some (.int .i64 r.area) ∧ w'.cell? ⟨w.heap.size, 1, none⟩ = some (.int .i64 r.job) ∧ w'.cell? ⟨w.heap.size, 2, none⟩ = some (.int .i64 r.sex)) from
        fun w' h => ⟨h, (h.cell hbw).trans c0, (h.cell hbw).trans c1, (h.cell hbw).trans c2', (h.cell hbw).trans c3, (h.cell (p := ⟨w.heap.size, 0, none⟩) hz).trans d0, (h.cell (p := ⟨w.heap.size, 1, none⟩) hz).trans d1, (h.cell (p := ⟨w.heap.size, 2, none⟩) hz).trans d2⟩)
      have b0 : Below W.heap.size W wr.drew := hb.drew
      clear c0 c1 c2' c3 d0 d1 d2 hb
      go_wp2
      go_region_held3 (fun w' => Below W.heap.size W w' ∧ w'.cell? ⟨b, o + k * 4, none⟩ = some (.int .i64 p.area) ∧ w'.cell? ⟨b, o + k * 4 + 1, none⟩ = some (.int .i64 p.job) ∧ w'.cell? ⟨b, o + k * 4 + 2, none⟩ = some (.int .i64 p.sex) ∧ w'.cell? ⟨b, o + k * 4 + 3, none⟩ = some (.int .i64 p.pay) ∧ w'.cell? ⟨w.heap.size, 0, none⟩ = some (.int .i64 r.area) ∧ w'.cell? ⟨w.heap.size, 1, none⟩ = some (.int .i64 r.job) ∧ w'.cell? ⟨w.heap.size, 2, none⟩ = some (.int .i64 r.sex))
        (first | exact HF.out _ (by assumption) | exact HF.out _ b0 | exact HF.out _ (Below.alloc (by assumption) (Below.size (by assumption)) _))
        (first
          | (go_at_call 35
             refine (sRec_at ll n HN.out A2 c2 r HRC.out p p' HPK.out HP'.out _ (show LL wr.drew wr.drew.heap.size A2 ll from HLL.out)).mono ?_
             rintro e w3 ⟨rfl, h3⟩
             have h3' : Below W.heap.size W w3 := b0.trans (h3.mono b0.size)
             have HO3 := Lib.hid (ownP_below (w := wr.drew) HO.out h3)
             have HB3 := Lib.hid h3'
             clear h3)
          | (refine step_people rfl (.tmp 23) (.tmp 31) rfl W.heap.size _ _ rfl (HO3.out.alloc _) (w3.heap.size + 1) (some ⟨w3.heap.size, 0, none⟩) 1 1 [p'] rfl rfl (rowP_new w3 _ _) HLEN.out (by have := HB3.out.size; simp; omega) ?_
             intro v4 w4 ho4 hg4
             have HB4 := Lib.hid (below_own (HB3.out.alloc HB3.out.size _) (HO3.out.alloc _) hg4)
             have h4' : Below W.heap.size W w4 := HB4.out
             have HO4 := Lib.hid ho4
             clear ho4 hg4))
      go_wp2
      go_roundw
      case rel => exact ⟨k + 1, by omega, by go_num, by rw [HT.out]; exact HO4.out, HB4.out⟩
      case measure => simp [intOf]; omega
    · have hkq : k = q := by omega
      have ht : l.take k = l := List.take_of_length_le (by rw [← HQ.out]; omega)
      rw [ht] at HO
      go_wp2
      go_ret2
      exact ⟨_, rfl, ownP_less HO.out (Nat.le_of_lt hz), HB.out.trans (HB2.out.mono (Nat.le_of_lt hz))⟩
theorem sRecPeople_no (l : List Pn) (q : Nat) (hq : q = l.length) (A : Option Addr) (c : Nat) (hlm : l.length ≤ maxLen) (ll : List (List Int)) (n : Nat) (hn : n = ll.length) (A2 : Option Addr) (c2 : Nat) (hl : ll.length ≤ maxLen) (r : Rc) (hok : grOk l ll r = false) (w : World)
    (hr : Row w w.heap.size A (pcells l)) (hll : LL w w.heap.size A2 ll) :
    Calls Try.prog 16 #[.slice A q c, .slice A2 n c2, r.val] w (OutedP [] false w) := by
  have HOK := Lib.hid hok
  have HQ := Lib.hid hq
  have HN := Lib.hid hn
  clear hok hq hn
  obtain ⟨W, hW⟩ : ∃ W, W = (w.alloc (.cells #[.int .i64 r.area, .int .i64 r.job, .int .i64 r.sex] TRc)) := ⟨_, rfl⟩
  have hb1 : Below w.heap.size w W := by rw [hW]; exact (Below.refl _ _).alloc (Nat.le_refl _) _
  have HWZ := Lib.hid (show W.heap.size = w.heap.size + 1 by rw [hW]; simp)
  have HR := Lib.hid ((hr.below hb1 (Nat.le_refl _)).more hb1.size)
  have HL := Lib.hid (hll.moved hb1)
  have HB := Lib.hid hb1
  clear hr hll
  go_enter Try.func16, Try.ntmps16
  go_wp2_with fail
  rw [← hW]
  clear hW
  have hnew : Below W.heap.size W (W.alloc (.cells #[] TP)) := (Below.refl _ _).alloc (Nat.le_refl _) _
  refine (sGrOk_any l q HQ.out A c hlm ll n HN.out A2 c2 hl r _ ((HR.out.below hnew (Nat.le_refl _)).more hnew.size) (HL.out.moved hnew)).mono ?_
  rintro e w2 ⟨rfl, h2⟩
  rw [HOK.out]
  have HO := Lib.hid (ownP_less (ownP_below (own_new W W (Below.refl _ _)) h2) hb1.size)
  have HB2 := Lib.hid (hb1.trans ((hnew.trans (h2.mono hnew.size)).mono hb1.size))
  clear h2 hnew hb1
  go_wp2
  go_ret2
  exact ⟨_, rfl, by have h := HO.out; rw [HWZ.out] at h; exact h, HB2.out⟩
end Go.Proofs.Ytbbgakbobefplaa
