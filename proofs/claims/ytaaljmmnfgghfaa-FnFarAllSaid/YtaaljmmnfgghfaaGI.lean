/- Contracts of the program: recodings and recoded people. Contracts of the program: recoded people. Groups in a map: what is told of them, whichever way they come. Groups in a map: the map's keys, and what the map tells. Groups in a map: one more is counted, as the run does it. Contracts of the program: groups in a map. Contracts of the program: the number of groups, the size of a group. Contracts of the program: the size of a group. Groups in a map: ranging over them, whichever way they come. Contracts of the program: how many are alone. Contracts of the program: finer recodings. -/
import Derived.Test.YtaaljmmnfgghfaaA5
import Derived.Test.YtaaljmmnfgghfaaA6
import Derived.Test.YtaaljmmnfgghfaaA2
import Derived.Maps.RangeWalk
import Derived.DeepKeys3
import Derived.KernelRfl
import Derived.WideKeyEntry
import Derived.Deep.RegionHeld3
namespace Go.Proofs.Ytaaljmmnfgghfaa
open Go.RowKit
theorem iRcCode_any (c n x : Int) (hx : (if n = 1 then 0 else c) = x) (w : World) : Calls Try.prog 52 #[.int .i64 c, .int .i64 n] w (VR (.int .i64 x) w) := by
  subst hx
  by_cases h : n = 1
  · subst h
    go_enter Try.func52, Try.ntmps52
    go_wp2
    go_ret
    exact ⟨rfl, rfl⟩
  · have hb : (n == 1) = false := by rw [beq_eq_false_iff_ne]; exact h
    go_enter Try.func52, Try.ntmps52
    go_wp2
    go_ret
    exact ⟨reti (by simp), rfl⟩
theorem iRcValid_any (ll : List (List Int)) (n : Nat) (hn : n = ll.length) (A : Option Addr) (c : Nat) (hl : ll.length ≤ maxLen) (r : Rc) (w : World) (hr : LL w w.heap.size A ll) :
    Calls Try.prog 37 #[.slice A n c, r.val] w fun e w' => e = .returned (.bool (rcOk ll r)) ∧ Below w.heap.size w w' := by
  have HN := Lib.hid hn; clear hn
  have hb1 : Below w.heap.size w (w.alloc (.cells #[.int .i64 r.area, .int .i64 r.job, .int .i64 r.sex] TRc)) := (Below.refl _ _).alloc (Nat.le_refl _) _
  have HL := Lib.hid (hr.moved hb1)
  have HB := Lib.hid hb1; clear hb1
  have HG := Lib.hid (show rcOk ll r = (groupOk ll r.area && in3 r.job 0 1 && in3 r.sex 0 1) from rfl)
  go_enter Try.func37, Try.ntmps37
  go_wp2_with fail
  refine (iHas_any ll A n c HN.out hl r.area _ HL.out).mono ?_
  rintro e w' ⟨rfl, rfl⟩
  cases hok : groupOk ll r.area
  · have HOK := Lib.hid hok; clear hok
    go_wp2
    go_ret
    exact ⟨retb (by rw [HG.out, HOK.out]; rfl), HB.out⟩
  have HOK := Lib.hid hok; clear hok
  by_cases h1 : 0 ≤ r.job
  · by_cases h2 : r.job ≤ 1
    · by_cases h3 : 0 ≤ r.sex
      · by_cases h4 : r.sex ≤ 1
        · go_wp2
          go_ret
          exact ⟨retb (by rw [HG.out, HOK.out]; first | (simp [in3, *]; done) | (simp [in3, *]; omega)), HB.out⟩
        · go_wp2
          go_ret
          exact ⟨retb (by rw [HG.out, HOK.out]; first | (simp [in3, *]; done) | (simp [in3, *]; omega)), HB.out⟩
      · go_wp2
        go_ret
        exact ⟨retb (by rw [HG.out, HOK.out]; first | (simp [in3, *]; done) | (simp [in3, *]; omega)), HB.out⟩
    · go_wp2
      go_ret
      exact ⟨retb (by rw [HG.out, HOK.out]; first | (simp [in3, *]; done) | (simp [in3, *]; omega)), HB.out⟩
  · go_wp2
    go_ret
    exact ⟨retb (by rw [HG.out, HOK.out]; first | (simp [in3, *]; done) | (simp [in3, *]; omega)), HB.out⟩
set_option maxHeartbeats 1000000 in
theorem iRec_any (ll : List (List Int)) (n : Nat) (hn : n = ll.length) (A : Option Addr) (c : Nat) (r : Rc) (hrc : rcOk ll r = true) (p p' : Pn) (hp : okP p = true) (hp' : rec1 ll r p = p') (w : World) (hr : LL w w.heap.size A ll) :
    Calls Try.prog 38 #[p.val, .slice A n c, r.val] w fun e w' => e = .returned p'.val ∧ Below w.heap.size w w' := by
  obtain ⟨h0, a0, a1, _⟩ := rc_in hrc
  obtain ⟨p0, p1⟩ := okP_area hp
  have H3 := Lib.hid (lad_len h0)
  have HS := Lib.hid (lad_code h0 a0 a1 p1)
  have HN := Lib.hid hn
  have HR := Lib.hid hr
  clear hn hr hrc hp h0
  subst hp'
  obtain ⟨ra, rj, rs⟩ := r
  obtain ⟨pa, pj, ps, pp⟩ := p
  obtain ⟨x, hx⟩ : ∃ x, codeAt ll ra pa = x := ⟨_, rfl⟩
  obtain ⟨y, hy⟩ : ∃ y, (if rj = 1 then 0 else pj) = y := ⟨_, rfl⟩
  obtain ⟨z, hz⟩ : ∃ z, (if rs = 1 then 0 else ps) = z := ⟨_, rfl⟩
  have HE := Lib.hid (show rec1 ll ⟨ra, rj, rs⟩ ⟨pa, pj, ps, pp⟩ = ⟨x, y, z, pp⟩ by simp only [rec1]; rw [hx, hy, hz])
  have HX := Lib.hid hx
  have HY := Lib.hid hy
  have HZ := Lib.hid hz
  clear hx hy hz
  rw [HE.out]
  simp only at a0 a1 p0 p1
  unfold Pn.val
  go_enter Try.func38, Try.ntmps38
  go_wp2_with fail
  refine (iCode_any ll H3.out A n c HN.out ra pa a0 a1 p0 HS.out _ (HR.out.moved ((((Below.refl _ _).alloc (Nat.le_refl _) _).alloc (by simp) _).alloc (by simp; omega) _))).mono ?_
  rintro e w' ⟨rfl, rfl⟩
  rw [HX.out]
  go_wp2_with fail
  refine (iRcCode_any pj rj y HY.out _).mono ?_
  rintro e w' ⟨rfl, rfl⟩
  go_wp2_with fail
  refine (iRcCode_any ps rs z HZ.out _).mono ?_
  rintro e w' ⟨rfl, rfl⟩
  go_wp2
  refine bodyPost_ret (v := Pn.val ⟨x, y, z, pp⟩) (by simp [results, Try.results38, go_sem]) rfl ⟨rfl, ?_⟩
  repeat (first | exact Below.refl _ _ | refine Below.alloc ?_ (by simp; try omega) _ | refine Below.setCell ?_ (by simp; try omega) _)
end Go.Proofs.Ytaaljmmnfgghfaa
namespace Go.Proofs.Ytaaljmmnfgghfaa
open Go.RowKit
set_option maxHeartbeats 1000000 in
theorem iRecPeople_no (l : List Pn) (q : Nat) (hq : q = l.length) (A : Option Addr) (c : Nat) (hlm : l.length ≤ maxLen) (ll : List (List Int)) (n : Nat) (hn : n = ll.length) (A2 : Option Addr) (c2 : Nat) (hl : ll.length ≤ maxLen) (r : Rc) (hok : grOk l ll r = false) (w : World)
    (hr : Row w w.heap.size A (pcells l)) (hll : LL w w.heap.size A2 ll) :
    Calls Try.prog 18 #[.slice A q c, .slice A2 n c2, r.val] w (OutedP [] false w) := by
  have HOK := Lib.hid hok
  have HQ := Lib.hid hq
  have HN := Lib.hid hn
  clear hok hq hn
  obtain ⟨W, hW⟩ : ∃ W, W = (w.alloc (.cells #[.int .i64 r.area, .int .i64 r.job, .int .i64 r.sex] TRc)) := ⟨_, rfl⟩
  have hb1 : Below w.heap.size w W := by rw [hW]; exact (Below.refl _ _).alloc (Nat.le_refl _) _
  have d0 : W.cell? ⟨w.heap.size, 0, none⟩ = some (.int .i64 r.area) := by rw [hW]; simp [go_sem]
  have d1 : W.cell? ⟨w.heap.size, 1, none⟩ = some (.int .i64 r.job) := by rw [hW]; simp [go_sem]
  have d2 : W.cell? ⟨w.heap.size, 2, none⟩ = some (.int .i64 r.sex) := by rw [hW]; simp [go_sem]
  have hz : w.heap.size < W.heap.size := by rw [hW]; simp
  have HR := Lib.hid ((hr.below hb1 (Nat.le_refl _)).more hb1.size)
  have HL := Lib.hid (hll.moved hb1)
  have HB := Lib.hid hb1
  clear hr hll hb1
  go_enter Try.func18, Try.ntmps18
  go_wp2_with fail
  rw [← hW]
  clear hW
  refine ((by have h := valid_any l A c W HR.out hlm; rw [← HQ.out] at h; exact h) : Calls Try.prog 36 #[.slice A q c] W fun e w' => e = .returned (.bool (okL l)) ∧ Below W.heap.size W w').mono ?_
  rintro e w2 ⟨rfl, h2⟩
  have HB2 := Lib.hid (HB.out.trans (h2.mono HB.out.size))
  cases hok : okL l
  · clear hok d0 d1 d2
    have HO := Lib.hid (own_new w w2 HB2.out)
    have HB3 := Lib.hid (HB2.out.alloc HB2.out.size (.cells #[] TP))
    clear h2
    go_wp2
    go_ret2
    exact ⟨_, rfl, HO.out, HB3.out⟩
  have HE := Lib.hid (show rcOk ll r = false by have h := HOK.out; rw [grOk, hok] at h; simpa using h)
  clear hok
  have c0 := (h2.cell (p := ⟨w.heap.size, 0, none⟩) hz).trans d0
  have c1 := (h2.cell (p := ⟨w.heap.size, 1, none⟩) hz).trans d1
  have c2' := (h2.cell (p := ⟨w.heap.size, 2, none⟩) hz).trans d2
  have HL2 := Lib.hid (HL.out.moved h2)
  clear d0 d1 d2 h2
  go_wp2_with fail
  refine (iRcValid_any ll n HN.out A2 c2 hl r _ HL2.out).mono ?_
  rintro e w3 ⟨rfl, h3⟩
  rw [HE.out]
  have HB4 := Lib.hid (HB2.out.trans (h3.mono HB2.out.size))
  have HO := Lib.hid (own_new w w3 HB4.out)
  have HB3 := Lib.hid (HB4.out.alloc HB4.out.size (.cells #[] TP))
  clear h3 c0 c1 c2'
  go_wp2
  go_ret2
  exact ⟨_, rfl, HO.out, HB3.out⟩
set_option maxHeartbeats 1000000 in
theorem iRecPeople_yes (l : List Pn) (q : Nat) (hq : q = l.length) (A : Option Addr) (c : Nat) (ll : List (List Int)) (n : Nat) (hn : n = ll.length) (A2 : Option Addr) (c2 : Nat) (r : Rc) (hok : grOk l ll r = true) (w : World)
    (hr : Row w w.heap.size A (pcells l)) (hll : LL w w.heap.size A2 ll) :
    Calls Try.prog 18 #[.slice A q c, .slice A2 n c2, r.val] w (OutedP (recL ll r l) true w) := by
  have hgo : okL l = true ∧ rcOk ll r = true := by simpa [grOk] using hok
  have h40 := (okL_all hgo.1).1
  have hlm : l.length ≤ maxLen := by simp only [maxLen]; omega
  have hl3 := lad_len (rc_in hgo.2).1
  have hllm : ll.length ≤ maxLen := by simp only [maxLen]; omega
  have HALL := Lib.hid (okL_all hgo.1).2
  have HPV := Lib.hid hgo.1
  have HRC := Lib.hid hgo.2
  have HQ := Lib.hid hq
  have HN := Lib.hid hn
  have hq40 : q ≤ 40 := by omega
  clear hgo hok hq hn
  obtain ⟨i0, hi0, hz0, hz1, hz2⟩ := info_parts info_P
  obtain ⟨W, hW⟩ : ∃ W, W = (w.alloc (.cells #[.int .i64 r.area, .int .i64 r.job, .int .i64 r.sex] TRc)) := ⟨_, rfl⟩
  have hb1 : Below w.heap.size w W := by rw [hW]; exact (Below.refl _ _).alloc (Nat.le_refl _) _
  have d0 : W.cell? ⟨w.heap.size, 0, none⟩ = some (.int .i64 r.area) := by rw [hW]; simp [go_sem]
  have d1 : W.cell? ⟨w.heap.size, 1, none⟩ = some (.int .i64 r.job) := by rw [hW]; simp [go_sem]
  have d2 : W.cell? ⟨w.heap.size, 2, none⟩ = some (.int .i64 r.sex) := by rw [hW]; simp [go_sem]
  have hz : w.heap.size < W.heap.size := by rw [hW]; simp
  have HR := Lib.hid ((hr.below hb1 (Nat.le_refl _)).more hb1.size)
  have HL := Lib.hid (hll.moved hb1)
  have HB := Lib.hid hb1
  clear hr hll hb1
  go_enter Try.func18, Try.ntmps18
  go_wp2_with fail
  rw [← hW]
  clear hW
  refine ((by have h := valid_any l A c W HR.out hlm; rw [← HQ.out] at h; exact h) : Calls Try.prog 36 #[.slice A q c] W fun e w' => e = .returned (.bool (okL l)) ∧ Below W.heap.size W w').mono ?_
  rintro e w2 ⟨rfl, h2⟩
  rw [HPV.out]
  have HB2 := Lib.hid h2
  have c0 := (h2.cell (p := ⟨w.heap.size, 0, none⟩) hz).trans d0
  have c1 := (h2.cell (p := ⟨w.heap.size, 1, none⟩) hz).trans d1
  have c2' := (h2.cell (p := ⟨w.heap.size, 2, none⟩) hz).trans d2
  have HL2 := Lib.hid (HL.out.moved h2)
  clear h2
  go_wp2_with fail
  refine (iRcValid_any ll n HN.out A2 c2 hllm r _ HL2.out).mono ?_
  rintro e w3 ⟨rfl, h3⟩
  rw [HRC.out]
  have HB3 := Lib.hid (HB2.out.trans (h3.mono HB2.out.size))
  have hz3 := HB3.out.size
  clear h3 c0 c1 c2' HL2 HB2
  go_wp2_with (at_make; go_loud (refine wpList_make_own _ rfl _ _ TPS rfl W.heap.size TP i0 (.agg #[.int .i64 0, .int .i64 0, .int .i64 0, .int .i64 0]) 4 Try.underlying23 hi0 hz0 hz1 _ _ _ q rfl rfl rfl (by rw [hz2]; omega) (by simp only [maxLen]; omega) hz3 ?_); intro w4 ho4 hg4)
  have HB4 := Lib.hid (show Below W.heap.size W w4 from HB3.out.grown hg4 hz3 (fun k hk => by cases hk))
  have HO := Lib.hid (show Own w4 W.heap.size _ [] from ho4)
  clear ho4 hg4 hi0 hz0 hz1 hz2
  go_wp2_with fail
  go_loopw [8, 26] (fun v i wr => ∃ k : Nat, k ≤ q ∧ i = .int .i64 k ∧ Own wr W.heap.size v (recL ll r (l.take k)) ∧ Below W.heap.size W wr) (fun _ i _ => q - (intOf i).toNat)
  case atStart => exact ⟨0, Nat.zero_le _, rfl, by simpa [recL] using HO.out, HB4.out⟩
  case round =>
    obtain ⟨k, hk, rfl, ho, hb⟩ := hrel
    clear HO HB4 HB3 hz3
    have HO := Lib.hid ho; clear ho
    have HB2 := Lib.hid hb
    have hz2 := hb.size
    have HLEN := Lib.hid (show (recL ll r (l.take k)).length + 1 ≤ 1000000 by rw [recL_len]; have := List.length_take_le k l; omega)
    by_cases hlt : k < q
    · have hki : (k : Int) < (q : Int) := by omega
      have hkl : k < l.length := by rw [← HQ.out]; exact hlt
      obtain ⟨b, o, rfl, hbw, c0, c1, c2', c3⟩ := (HR.out.below hb (Nat.le_refl _)).at_ k hkl
      have hpk : okP l[k] = true := List.all_eq_true.1 HALL.out l[k] (List.getElem_mem hkl)
      have HPK := Lib.hid hpk
      have HT := Lib.hid (recL_take ll r l k hkl)
      clear hpk
      obtain ⟨p, hp⟩ : ∃ p, l[k] = p := ⟨_, rfl⟩
      rw [hp] at c0 c1 c2' c3 HPK HT
      clear hp
      obtain ⟨p', hp'⟩ : ∃ p', rec1 ll r p = p' := ⟨_, rfl⟩
      rw [hp'] at HT
      have HP' := Lib.hid hp'; clear hp'
      have e0 := (hb.cell (p := ⟨w.heap.size, 0, none⟩) hz).trans d0
      have e1 := (hb.cell (p := ⟨w.heap.size, 1, none⟩) hz).trans d1
      have e2 := (hb.cell (p := ⟨w.heap.size, 2, none⟩) hz).trans d2
      have hb5 := hb.alloc hz2 (.cells #[.int .i64 p.area, .int .i64 p.job, .int .i64 p.sex, .int .i64 p.pay] TP)
      have HLL := Lib.hid (HL.out.moved hb5)
      have HB5 := Lib.hid hb5
      have hzr : w.heap.size < wr.heap.size := by omega
      clear d0 d1 d2 hb hb5
      go_wp2_with fail
      refine (iRec_any ll n HN.out A2 c2 r HRC.out p p' HPK.out HP'.out _ HLL.out).mono ?_
      rintro e w6 ⟨rfl, h6⟩
      have HB6 := Lib.hid (HB5.out.trans (h6.mono HB5.out.size))
      have HO6 := Lib.hid (ownP_below (HO.out.alloc _) h6)
      clear h6 e0 e1 e2 c0 c1 c2' c3
      go_wp2_with (at_builtin
                   refine app_people rfl (.tmp 30) (.tmp 35) rfl W.heap.size _ _ rfl (HO6.out.alloc _) (w6.heap.size + 1) (some ⟨w6.heap.size, 0, none⟩) 1 1 [p'] rfl rfl (rowP_new w6 _ _) HLEN.out (by have := HB6.out.size; simp; omega) ?_
                   intro v7 w7 ho7 hg7
                   have HB7 := Lib.hid (below_own (HB6.out.alloc HB6.out.size _) (HO6.out.alloc _) hg7)
                   have HO7 := Lib.hid ho7
                   clear ho7 hg7)
      go_roundw
      case rel => exact ⟨k + 1, by omega, by go_num, by rw [HT.out]; exact HO7.out, HB7.out⟩
      case measure => simp [intOf]; omega
    · have hkq : k = q := by omega
      have ht : l.take k = l := List.take_of_length_le (by rw [← HQ.out]; omega)
      rw [ht] at HO
      go_wp2
      go_ret2
      exact ⟨_, rfl, ownP_less HO.out (Nat.le_of_lt hz), HB.out.trans (HB2.out.mono (Nat.le_of_lt hz))⟩
end Go.Proofs.Ytaaljmmnfgghfaa
namespace Go.Proofs.Ytaaljmmnfgghfaa
section
variable {α : Type} [DecidableEq α]
theorem foldl_min_is {l : List Nat} {n m : Nat} (h1 : m ≤ n) (h2 : ∀ a ∈ l, m ≤ a) (h3 : m = n ∨ m ∈ l) : l.foldl min n = m := by
  obtain ⟨k1, k2⟩ := foldl_min_le l n
  rcases h3 with h3 | h3
  · rcases foldl_min_mem l n with h | h
    · omega
    · have := h2 _ h; omega
  · have := k2 _ h3
    rcases foldl_min_mem l n with h | h
    · omega
    · have := h2 _ h; omega
/-- The least group of those that have come. -/
def leastIn (x : List α) (come : α → Bool) : Nat := ((x.filter come).map (cn x)).foldl min x.length
theorem leastIn_none (x : List α) (come : α → Bool) (h : ∀ a ∈ x, come a = false) : leastIn x come = x.length := by
  unfold leastIn
  rw [List.filter_eq_nil_iff.2 fun a ha => by simp [h a ha]]; rfl
theorem leastIn_all (x : List α) (come : α → Bool) (h : ∀ a ∈ x, come a = true) : leastIn x come = least1 x := by
  unfold leastIn least1
  rw [List.filter_eq_self.2 h]
theorem leastIn_le (x : List α) (come : α → Bool) : leastIn x come ≤ x.length := (foldl_min_le _ _).1
theorem leastIn_step (x : List α) (come come' : α → Bool) (q : α) (hq : q ∈ x) (h : ∀ a ∈ x, come' a = (come a || decide (a = q))) : leastIn x come' = min (leastIn x come) (cn x q) := by
  unfold leastIn
  obtain ⟨k1, k2⟩ := foldl_min_le ((x.filter come).map (cn x)) x.length
  refine foldl_min_is (by omega) (fun a ha => ?_) ?_
  · obtain ⟨b, hb, rfl⟩ := List.mem_map.1 ha
    obtain ⟨hb1, hb2⟩ := List.mem_filter.1 hb
    rw [h b hb1, Bool.or_eq_true, decide_eq_true_eq] at hb2
    rcases hb2 with hb2 | rfl
    · have := k2 _ (List.mem_map.2 ⟨b, List.mem_filter.2 ⟨hb1, hb2⟩, rfl⟩); omega
    · omega
  · rcases Nat.le_total (((x.filter come).map (cn x)).foldl min x.length) (cn x q) with h1 | h1
    · rw [Nat.min_eq_left h1]
      rcases foldl_min_mem ((x.filter come).map (cn x)) x.length with h2 | h2
      · left; exact h2
      · right
        obtain ⟨b, hb, hb3⟩ := List.mem_map.1 h2
        obtain ⟨hb1, hb2⟩ := List.mem_filter.1 hb
        rw [← hb3]
        exact List.mem_map.2 ⟨b, List.mem_filter.2 ⟨hb1, by rw [h b hb1, hb2]; rfl⟩, rfl⟩
    · rw [Nat.min_eq_right h1]
      right
      exact List.mem_map.2 ⟨q, List.mem_filter.2 ⟨hq, by rw [h q hq]; simp⟩, rfl⟩
omit [DecidableEq α] in
theorem len_two (l : List α) (f g k : α → Bool) (h : ∀ a ∈ l, f a = (g a || k a)) (h2 : ∀ a ∈ l, g a = true → k a = false) : (l.filter f).length = (l.filter g).length + (l.filter k).length := by
  induction l with
  | nil => rfl
  | cons a r ih =>
    have i := ih (fun b hb => h b (List.mem_cons_of_mem _ hb)) (fun b hb => h2 b (List.mem_cons_of_mem _ hb))
    have e := h a (by simp)
    have e2 := h2 a (by simp)
    cases hg : g a <;> cases hk : k a <;> simp_all <;> omega
/-- How many of those that have come are alone. -/
def uniqIn (x : List α) (come : α → Bool) : Nat := (x.filter fun a => come a && decide (cn x a = 1)).length
theorem uniqIn_none (x : List α) (come : α → Bool) (h : ∀ a ∈ x, come a = false) : uniqIn x come = 0 := by
  unfold uniqIn
  rw [List.filter_eq_nil_iff.2 fun a ha => by simp [h a ha]]; rfl
theorem uniqIn_all (x : List α) (come : α → Bool) (h : ∀ a ∈ x, come a = true) : uniqIn x come = uniq1 x := by
  unfold uniqIn uniq1
  rw [List.filter_congr fun a ha => by rw [h a ha, Bool.true_and]]
theorem uniqIn_le (x : List α) (come : α → Bool) : uniqIn x come ≤ x.length := List.length_filter_le _ _
theorem uniqIn_step (x : List α) (come come' : α → Bool) (q : α) (hc : come q = false) (h : ∀ a ∈ x, come' a = (come a || decide (a = q))) : uniqIn x come' = uniqIn x come + if cn x q = 1 then 1 else 0 := by
  unfold uniqIn
  rw [len_two x (fun a => come' a && decide (cn x a = 1)) (fun a => come a && decide (cn x a = 1)) (fun a => decide (a = q) && decide (cn x a = 1)) (fun a ha => by rw [h a ha, Bool.and_or_distrib_right])
    (fun a _ h1 => by
      by_cases e : a = q
      · subst e; rw [hc] at h1; cases h1
      · simp [e])]
  congr 1
  by_cases h1 : cn x q = 1
  · rw [if_pos h1, ← h1]
    unfold cn
    congr 1
    refine List.filter_congr fun a _ => ?_
    by_cases e : a = q
    · subst e; unfold cn at h1; simp [h1]
    · simp [e]
  · rw [if_neg h1, List.length_eq_zero_iff, List.filter_eq_nil_iff]
    intro a _
    by_cases e : a = q
    · subst e; simp [h1]
    · simp [e]
end
end Go.Proofs.Ytaaljmmnfgghfaa
namespace Go.Proofs.Ytaaljmmnfgghfaa
open Go.RowKit Go.Maps
abbrev TK : TypeId := 52
abbrev TInt : TypeId := 3
abbrev Key := Int × Int × Int
abbrev kv (q : Key) : Value := .agg #[.int .i64 q.1, .int .i64 q.2.1, .int .i64 q.2.2]
def kl (q : Key) : Lit := .string (keyBytes [.int .i64 q.1, .int .i64 q.2.1, .int .i64 q.2.2])
def wfK (q : Key) : Prop := (Lit.int .i64 q.1).wf = true ∧ (Lit.int .i64 q.2.1).wf = true ∧ (Lit.int .i64 q.2.2).wf = true
theorem kLaw : Keyed Try.prog TK := Keyed.of_law (deep_law (m := 2) (by decide) (by kernel_rfl) (by kernel_rfl) (by kernel_rfl))
theorem kType : Try.prog.keyTypeAt 2 TK = true := by kernel_rfl
theorem kCells : Try.prog.cellsOf TK = 3 := by kernel_rfl
theorem kInt1 : Try.prog.cellsOf TInt = 1 := by kernel_rfl
theorem kSize : ∃ m, Try.prog.types.size = m + 2 := ⟨Try.prog.types.size - 2, by kernel_rfl⟩
theorem kKey : Try.prog.keyType TK = true := by kernel_rfl
theorem kOf (q : Key) (h : wfK q) : keyOf Try.prog TK (kv q) = some (kl q) := by
  obtain ⟨m, hm⟩ := kSize
  obtain ⟨h1, h2, h3⟩ := h
  have hu := Try.underlying52
  have hi := Try.underlying3
  have hc := kCells
  have hc1 := kInt1
  unfold keyOf
  simp only [hu]
  rw [if_pos (by simp [kKey, Value.formed, hu, hc]), hm]
  unfold Program.keyLits
  simp only [hu, Value.cells]
  rw [if_pos (by rw [hc]; exact ⟨rfl, by first | kernel_rfl | rfl | simp⟩)]
  simp [Program.keyLits, hi, hc1, h1, h2, h3, kl]
theorem kl_inj {a b : Key} (ha : wfK a) (hb : wfK b) (h : kl a = kl b) : a = b := by
  have h2 := kLaw.inj (kOf a ha) (h ▸ kOf b hb)
  obtain ⟨a1, a2, a3⟩ := a
  obtain ⟨b1, b2, b3⟩ := b
  simpa using h2
theorem kl_key (q : Key) : WideAt.IsKeyLit (kl q) := trivial
theorem kl_same {a b : Key} (ha : wfK a) (hb : wfK b) : (kl a).sameKey (kl b) = decide (a = b) := by
  by_cases h : a = b
  · subst h; rw [WideAt.sameKey_self (kl_key a)]; simp
  · rw [Maps.sameKey_ne fun e => h (kl_inj ha hb e)]; simp [h]
/-- Whatever reads as a key is three numbers. -/
theorem kInv {v : Value} {l : Lit} (h : keyOf Try.prog TK v = some l) : ∃ q, v = kv q ∧ wfK q ∧ l = kl q := by
  obtain ⟨m, hm⟩ := kSize
  have hu := Try.underlying52
  have hi := Try.underlying3
  have hc := kCells
  have hc1 := kInt1
  have h0 := h
  unfold keyOf at h
  simp only [hu] at h
  split at h
  · rename_i hf
    simp only [kKey, Bool.true_and, Value.formed, hu] at hf
    cases v <;> simp [hc] at hf
    rename_i cs
    obtain ⟨l0⟩ := cs
    match l0, hf with
    | [x, y, z], _ =>
      rw [hm] at h
      unfold Program.keyLits at h
      simp only [hu, Value.cells] at h
      rw [if_pos (by rw [hc]; exact ⟨rfl, by first | kernel_rfl | rfl | simp⟩)] at h
      simp only [Option.map_eq_some_iff] at h
      obtain ⟨ls, ⟨ls2, h1, rfl⟩, rfl⟩ := h
      simp only [List.mapM_cons, List.mapM_nil, bind, Option.bind_eq_some_iff, pure, Option.some.injEq, hc1] at h1
      obtain ⟨y0, e0, _, ⟨y1, e1, _, ⟨y2, e2, _, rfl, rfl⟩, rfl⟩, rfl⟩ := h1
      have one : ∀ {c : Value} {y : List Lit}, Try.prog.keyLits (m + 2) TInt [c] = some y → ∃ a, c = .int .i64 a ∧ (Lit.int .i64 a).wf = true := fun {c y} e => by
        cases c <;> simp [Program.keyLits, hi] at e
        obtain ⟨⟨rfl, hw⟩, _⟩ := e
        exact ⟨_, rfl, hw⟩
      obtain ⟨a, rfl, wa⟩ := one e0
      obtain ⟨b, rfl, wb⟩ := one e1
      obtain ⟨c, rfl, wc⟩ := one e2
      have hk := kOf (a, b, c) ⟨wa, wb, wc⟩
      rw [hk] at h0
      exact ⟨(a, b, c), rfl, ⟨wa, wb, wc⟩, (Option.some.inj h0).symm⟩
  · cases h
abbrev Dm := DataW Unit
abbrev num (n : Int) : Dm := .lit (.int .i64 n)
/-- What a map of groups tells. -/
structure Tells (D : Dm) (x : List Key) : Prop where
  tidy : Tidy D
  at_ : ∀ q, wfK q → D.atKey (kl q) (num 0) = num (cn x q)
  has : ∀ q, wfK q → Maps.has D (kl q) = decide (q ∈ x)
  size : Maps.size D = many1 x
theorem tells_none : Tells (.map []) [] := ⟨tidy_empty, fun _ _ => rfl, fun _ _ => rfl, rfl⟩
theorem Tells.step {D : Dm} {x : List Key} (h : Tells D x) {q : Key} (hq : wfK q) : Tells (D.put (kl q) (num ((cn x q : Nat) + 1))) (x ++ [q]) := by
  refine ⟨h.tidy.put (kl_key q) _, fun a ha => ?_, fun a ha => ?_, ?_⟩
  · rw [cn_app, cn_cons, cn_nil]
    by_cases e : a = q
    · subst e
      rw [Maps.atKey_put_same h.tidy.isMap (kl_key a), if_pos rfl]; simp
    · rw [Maps.atKey_put_other (fun e2 => e (kl_inj ha hq e2)), h.at_ a ha, if_neg (fun e2 => e e2.symm)]; simp
  · by_cases e : a = q
    · subst e
      rw [Maps.has_put_same h.tidy.isMap (kl_key a)]; simp
    · rw [Maps.has_put_other (fun e2 => e (kl_inj ha hq e2)), h.has a ha]; simp [e]
  · rw [Maps.size_put h.tidy, h.has q hq, h.size, many_snoc]
    by_cases e : q ∈ x <;> simp [e]
noncomputable abbrev eInt := plainElem (H := Unit) Try.prog TInt
/-- A block that is a map of groups. -/
def Grp (w : World) (b n : Nat) (x : List Key) : Prop := ∃ D, w.ownsMap Try.prog TK eInt b n D ∧ Tells D x
theorem wf_nat {n : Nat} (h : n ≤ 1000000) : (Lit.int .i64 (n : Int)).wf = true := WalkArith.wf_i64 (by omega)
end Go.Proofs.Ytaaljmmnfgghfaa
namespace Go.Proofs.Ytaaljmmnfgghfaa
open Go.RowKit Go.Maps
open Go.ChangeMaps (setBlock heap_setBlock_same heap_setBlock_other)
abbrev TM : TypeId := 49
theorem kLaw0 : WideMaps.KeyLaw Try.prog TK := deep_law (m := 2) (by decide) (by kernel_rfl) (by kernel_rfl) (by kernel_rfl)
theorem kZero (w : World) : (zeroValue TInt).run Try.prog w = .ok (.int .i64 0) w := by kernel_rfl
theorem kMap : Try.prog.underlying TM = some (.map TK TInt) := Try.underlying49
theorem kElem : Try.prog.underlying TInt = some (.int .i64) := Try.underlying3
/-- A map is what its block is. -/
theorem owns_block {w w' : World} {b n : Nat} {D : Dm} (h : w.ownsMap Try.prog TK eInt b n D) (hb : w'.heap[b]? = w.heap[b]?) : w'.ownsMap Try.prog TK eInt b n D := by
  obtain ⟨es, clock, h1, h2⟩ := h
  exact ⟨es, clock, hb.trans h1, h2⟩
theorem grown_setBlock {w : World} {b : Nat} {es : Array MapEntry} {clock : Nat} (hb : w.heap[b]? = some (.map es clock)) (o : Obj) : w.grownBy (setBlock w b o) (some b) :=
  ⟨rfl, rfl, rfl, by simp [setBlock], fun i _ hi => heap_setBlock_other hb _ (fun e => hi (by rw [e]))⟩
theorem bump {w : World} {b n : Nat} {D : Dm} (h : w.ownsMap Try.prog TK eInt b n D) (hn : n < maxLen) {q : Key} (hq : wfK q) {c z : Int} (hat : D.atKey (kl q) (num 0) = num c) (hz : (Lit.int .i64 z).wf = true) :
    ∃ (v0 : Value) (st : Nat) (w4 w5 : World), (Instr.lookup TM (.map (some b)) (kv q) false).run Try.prog w = .ok (.int .i64 c) w ∧ (Instr.lookup TM (.map (some b)) (kv q) false).run Try.prog w4 = .ok (.int .i64 c) w4 ∧
      (Instr.mapEntry TM (.map (some b)) (kv q)).run Try.prog w = .ok (.tuple #[v0, .int .i64 st]) w4 ∧ (Instr.entryStore TM (.map (some b)) (.int .i64 st) (.int .i64 z)).run Try.prog w4 = .ok () w5 ∧
      w5.ownsMap Try.prog TK eInt b (n + 1) (D.put (kl q) (num z)) ∧ w.grownBy w4 (some b) ∧ w.grownBy w5 (some b) := by
  have hkey := kOf q hq
  have look : ∀ (u : World) (n' : Nat) (D' : Dm), u.ownsMap Try.prog TK eInt b n' D' → D'.atKey (kl q) (num 0) = num c → (Instr.lookup TM (.map (some b)) (kv q) false).run Try.prog u = .ok (.int .i64 c) u := fun u n' D' hu ha => by
    obtain ⟨c', hrun, hc', _⟩ := hu.lookup_int kLaw kMap kElem (kZero u) hkey
    rw [ha] at hc'
    have : c = c' := by simpa using hc'
    rw [this]; exact hrun
  obtain ⟨u5, hup, hown5, _⟩ := h.update kLaw kMap hn hkey (plainElem_int kElem hz)
  have h0 := h
  obtain ⟨es, clock, hb, F, hs, hD⟩ := h
  obtain ⟨v0, st, es1, clock1, hent, _, hst⟩ := WideElems.entry_then_store kLaw0 kMap (fun u => kZero u) hb F hkey
  have hb1 : (setBlock w b (.map es1 clock1)).heap[b]? = some (.map es1 clock1) := heap_setBlock_same hb _
  obtain ⟨es', clock', hst1, hst2⟩ := hst _ (.int .i64 z) hb1
  have e5 : u5 = setBlock w b (.map es' clock') := by rw [hup] at hst2; simpa using hst2
  refine ⟨v0, st, setBlock w b (.map es1 clock1), _, look w n D h0 hat, ?_, hent, hst1, owns_block hown5 ?_, ?_, ?_⟩
  · -- behind the entry the look-up finds what it found before
    rcases kLaw.find w hkey es.toList F.keys with ⟨f1, f2⟩ | ⟨j, e0, f1, f2, f3⟩
    · -- a new entry: as a store of nought
      obtain ⟨u0, hup0, hown0, _⟩ := h0.update kLaw kMap hn hkey (plainElem_int (H := Unit) kElem (show (Lit.int .i64 0).wf = true by decide))
      have g1 : (Instr.mapEntry TM (.map (some b)) (kv q)).run Try.prog w = .ok (.tuple #[.int .i64 0, goInt clock]) u0 := by
        simp only [Instr.mapUpdate, run_underlying kMap, MapKept.run_getObj_map hb, kLaw.check w false hkey, f1, MapKept.run_setObj_map _ hb, Result.andThen, Sem.run_bind] at hup0
        simp only [Instr.mapEntry, run_underlying kMap, MapKept.run_getObj_map hb, kLaw.check w false hkey, f1, kZero, MapKept.run_setObj_map _ hb, Result.andThen, Sem.run_bind, Sem.run_pure]
        simpa using hup0
      rw [hent] at g1
      have e0 : setBlock w b (.map es1 clock1) = u0 := by simpa using (Result.ok.inj g1).2
      rw [e0]
      refine look u0 _ _ hown0 ?_
      rw [Maps.atKey_put_same h0.isMap (kl_key q)]
      obtain ⟨c', hrun, hc', _⟩ := h0.lookup_int kLaw kMap kElem (kZero w) hkey
      have g2 : (Instr.lookup TM (.map (some b)) (kv q) false).run Try.prog w = .ok (.int .i64 0) w := by
        simp [Instr.lookup, run_underlying kMap, MapKept.run_getObj_map hb, kLaw.check w _ hkey, f1, Result.andThen]
      rw [g2] at hrun
      rw [hat] at hc'
      simp at hrun hc'
      rw [hc', ← hrun]
    · -- an entry that is there: the map stays what it is
      have hj : es[j]? = some e0 := by simpa using f2
      have g1 : (Instr.mapEntry TM (.map (some b)) (kv q)).run Try.prog w = .ok (.tuple #[e0.val, goInt e0.born]) (setBlock w b (.map es clock)) := by
        have hsame : es.modify j (fun e => { e with key := kv q }) = es := by
          apply Array.ext'
          rw [Array.toList_modify, ChangeMaps.modify_eq_set _ _ _ _ f2]
          have : ({ e0 with key := kv q } : MapEntry) = e0 := by rw [← f3]
          rw [this]
          exact WideElems.set_self _ _ _ f2
        simp [Instr.mapEntry, run_underlying kMap, MapKept.run_getObj_map hb, kLaw.check w false hkey, f1, hj, f3, kLaw.stays w hkey, hsame, MapKept.run_setObj_map _ hb, Result.andThen, setBlock]
      rw [hent] at g1
      have e0 : setBlock w b (.map es1 clock1) = setBlock w b (.map es clock) := by simpa using (Result.ok.inj g1).2
      rw [e0]
      refine look _ n D (owns_block h0 ?_) hat
      rw [heap_setBlock_same hb, hb]
  · rw [e5, heap_setBlock_same hb, heap_setBlock_same hb1]
  · exact grown_setBlock hb _
  · refine ⟨rfl, rfl, rfl, by simp [setBlock], fun i hi hne => ?_⟩
    have hib : i ≠ b := fun e => hne (by rw [e])
    rw [heap_setBlock_other hb1 _ hib, heap_setBlock_other hb _ hib]
end Go.Proofs.Ytaaljmmnfgghfaa
namespace Go.Proofs.Ytaaljmmnfgghfaa
open Go.RowKit Go.Maps
theorem iCodes_any (p : Pn) (w : World) : Calls Try.prog 33 #[p.val] w fun e w' => e = .returned (.agg #[.int .i64 p.area, .int .i64 p.job, .int .i64 p.sex]) ∧ Below w.heap.size w w' := by
  go_enter Try.func33, Try.ntmps33
  go_wp2
  refine bodyPost_ret (v := .agg #[.int .i64 p.area, .int .i64 p.job, .int .i64 p.sex]) (by simp [results, Try.results33, go_sem]) rfl ⟨rfl, ?_⟩
  repeat (first | exact Below.refl _ _ | refine Below.alloc ?_ (by simp; try omega) _ | refine Below.setCell ?_ (by simp; try omega) _)
/-- Codes that are kept as numbers. -/
def Wk (x : List Pn) : Prop := ∀ p ∈ x, wfK (key p)
theorem keys_take (x : List Pn) (k : Nat) (hk : k < x.length) : keys (x.take (k + 1)) = keys (x.take k) ++ [key x[k]] := by
  unfold keys; rw [List.take_succ_eq_append_getElem hk, List.map_append]; rfl
theorem wrap_up (s : Nat) (h : s ≤ 1000000) : IntKind.i64.wrap ((s : Int) + 1) = (s : Int) + 1 := by
  simp only [IntKind.wrap, IntKind.signed, IntKind.bits]; simp; omega
theorem _root_.Go.World.grownBy.trans_same {a b c : World} {R : Option Nat} (h : a.grownBy b R) (k : b.grownBy c R) : a.grownBy c R := h.andThen k (fun _ hj => .inr hj)
theorem _root_.Go.World.grownBy.trans_below {a b c : World} {R : Option Nat} (h : a.grownBy b R) (k : Below b.heap.size b c) : a.grownBy c R :=
  ⟨k.os.trans h.os, k.tape.trans h.tape, k.output.trans h.output, Nat.le_trans h.size k.size, fun i hi hne => (k.block i (Nat.lt_of_lt_of_le hi h.size)).trans (h.block i hi hne)⟩
set_option maxHeartbeats 1000000 in
theorem iSizes_any (x : List Pn) (q : Nat) (hq : q = x.length) (hx6 : x.length ≤ 1000000) (hwf : Wk x) (A : Option Addr) (c : Nat) (w : World) (hr : Row w w.heap.size A (pcells x)) :
    Calls Try.prog 32 #[.slice A q c] w fun e w' => e = .returned (.map (some w.heap.size)) ∧ Grp w' w.heap.size q (keys x) ∧ Below w.heap.size w w' := by
  have HQ := Lib.hid hq; clear hq
  have HWF := Lib.hid hwf; clear hwf
  have hq6 : q ≤ 1000000 := by rw [HQ.out]; exact hx6
  have hmm := @run_makeMap Try.prog
  go_enter Try.func32, Try.ntmps32
  go_wp2
  go_loopw [9] (fun i wr => ∃ k : Nat, k ≤ q ∧ i = .int .i64 k ∧ Grp wr w.heap.size k (keys (x.take k)) ∧ Below w.heap.size w wr) (fun i _ => q - (intOf i).toNat)
  case atStart => exact ⟨0, Nat.zero_le _, rfl, ⟨_, World.ownsMap_made _ _ _ _, tells_none⟩, (Below.refl _ _).alloc (Nat.le_refl _) _⟩
  case round =>
    obtain ⟨k, hk, rfl, hgr, hb⟩ := hrel
    clear hmm
    by_cases hlt : k < q
    · have hki : (k : Int) < (q : Int) := by omega
      have hkx : k < x.length := by rw [← HQ.out]; exact hlt
      obtain ⟨bq, o, rfl, hbw, c0, c1, c2, c3⟩ := (hr.below hb (Nat.le_refl _)).at_ k hkx
      have HT := Lib.hid (keys_take x k hkx)
      have HKW := Lib.hid (HWF.out x[k] (List.getElem_mem hkx))
      obtain ⟨p, hp⟩ : ∃ p, x[k] = p := ⟨_, rfl⟩
      rw [hp] at c0 c1 c2 c3 HT HKW
      clear hp
      have hz := hb.size
      obtain ⟨W, hW⟩ : ∃ W, W = wr.alloc (.cells #[.int .i64 p.area, .int .i64 p.job, .int .i64 p.sex, .int .i64 p.pay] TP) := ⟨_, rfl⟩
      have hbW : Below w.heap.size w W := by rw [hW]; exact hb.alloc hz _
      have hWz : wr.heap.size < W.heap.size := by rw [hW]; simp
      have d0 : W.cell? ⟨wr.heap.size, 0, none⟩ = some (.int .i64 p.area) := by rw [hW]; simp [go_sem]
      have d1 : W.cell? ⟨wr.heap.size, 1, none⟩ = some (.int .i64 p.job) := by rw [hW]; simp [go_sem]
      have d2 : W.cell? ⟨wr.heap.size, 2, none⟩ = some (.int .i64 p.sex) := by rw [hW]; simp [go_sem]
      have d3 : W.cell? ⟨wr.heap.size, 3, none⟩ = some (.int .i64 p.pay) := by rw [hW]; simp [go_sem]
      obtain ⟨D, hown, htell⟩ := hgr
      have hblt : w.heap.size < wr.heap.size := hown.lt
      have HOW := Lib.hid (show W.ownsMap Try.prog TK eInt w.heap.size k D by rw [hW]; exact hown.alloc _)
      have HTL := Lib.hid htell
      have hs1 := cn_le (keys (x.take k)) (key p)
      have hs2 : (keys (x.take k)).length ≤ k := by unfold keys; rw [List.length_map]; exact List.length_take_le _ _
      obtain ⟨s, hs⟩ : ∃ s, cn (keys (x.take k)) (key p) = s := ⟨_, rfl⟩
      rw [hs] at hs1
      have hs6 : s ≤ 1000000 := by omega
      have HS := Lib.hid hs
      have hwrap := wrap_up s hs6
      have HF := Lib.hid (show ∀ w' : World, W.grownBy w' (some w.heap.size) → (Below w.heap.size w w' ∧ w'.cell? ⟨wr.heap.size, 0, none⟩ = some (.int .i64 p.area) ∧ w'.cell? ⟨wr.heap.size, 1, none⟩ = some (.int .i64 p.job) ∧ w'.cell? ⟨wr.heap.size, 2, none⟩ = some (.int .i64 p.sex) ∧ w'.cell? ⟨wr.heap.size, 3, none⟩ = some (.int .i64 p.pay)) from
        fun w' h => by
          have hc : ∀ j, w'.cell? ⟨wr.heap.size, j, none⟩ = W.cell? ⟨wr.heap.size, j, none⟩ := fun j => by
            have h2 := h.block wr.heap.size hWz (fun e => by injection e with e; omega)
            unfold World.cell?; simp only [h2]
          exact ⟨hbW.grown h hbW.size (fun j hj => by cases hj; exact Nat.le_refl _), (hc 0).trans d0, (hc 1).trans d1, (hc 2).trans d2, (hc 3).trans d3⟩)
      have HG0 := Lib.hid (show W.grownBy W.drew (some w.heap.size) from ⟨rfl, rfl, rfl, Nat.le_refl _, fun _ _ _ => rfl⟩)
      clear hs hs1 hs2 d0 d1 d2 d3 hown htell
      go_wp2
      rw [← hW]
      clear hW c0 c1 c2 c3
      go_region_held3 (fun w' => Below w.heap.size w w' ∧ w'.cell? ⟨wr.heap.size, 0, none⟩ = some (.int .i64 p.area) ∧ w'.cell? ⟨wr.heap.size, 1, none⟩ = some (.int .i64 p.job) ∧ w'.cell? ⟨wr.heap.size, 2, none⟩ = some (.int .i64 p.sex) ∧ w'.cell? ⟨wr.heap.size, 3, none⟩ = some (.int .i64 p.pay))
        (first | exact HF.out _ HG0.out | exact HF.out _ HG3.out | exact HF.out _ HG4.out | exact HF.out _ HG5.out)
        (first
          | (go_at_call 33
             refine (iCodes_any p _).mono ?_
             rintro e w3 ⟨rfl, h3⟩
             have HG3 := Lib.hid (show W.grownBy w3 (some w.heap.size) from HG0.out.trans_below h3)
             have HOW3 := Lib.hid (owns_block (w' := w3) HOW.out (h3.block w.heap.size (show w.heap.size < W.heap.size by omega)))
             obtain ⟨v0, st, w4, w5, r1, r2, r3, r4, ho5, g4, g5⟩ := bump HOW3.out (by simp only [maxLen]; omega) HKW.out (c := (s : Int)) (z := (s : Int) + 1) (by rw [HTL.out.at_ _ HKW.out, HS.out]) (WalkArith.wf_i64 (by omega))
             replace r1 : (Instr.lookup TM (.map (some w.heap.size)) (.agg #[.int .i64 p.area, .int .i64 p.job, .int .i64 p.sex]) false).run Try.prog w3 = .ok (.int .i64 (s : Int)) w3 := r1
             replace r2 : (Instr.lookup TM (.map (some w.heap.size)) (.agg #[.int .i64 p.area, .int .i64 p.job, .int .i64 p.sex]) false).run Try.prog w4 = .ok (.int .i64 (s : Int)) w4 := r2
             replace r3 : (Instr.mapEntry TM (.map (some w.heap.size)) (.agg #[.int .i64 p.area, .int .i64 p.job, .int .i64 p.sex])).run Try.prog w3 = .ok (.tuple #[v0, .int .i64 st]) w4 := r3
             have HG4 := Lib.hid (HG3.out.trans_same g4)
             have HG5 := Lib.hid (HG3.out.trans_same g5)
             have HO5 := Lib.hid ho5
             clear h3 ho5 g4 g5))
      all_goals
        go_wp2
        go_roundw
        case rel => exact ⟨k + 1, by omega, by go_num, ⟨_, HO5.out, by rw [HT.out]; have h := HTL.out.step HKW.out; rw [HS.out] at h; exact h⟩, (HF.out _ HG5.out).1⟩
        case measure => simp [intOf]; omega
    · have hkq : k = q := by omega
      have ht : x.take k = x := List.take_of_length_le (by rw [← HQ.out]; omega)
      rw [ht, hkq] at hgr
      have hki : ¬ (k : Int) < (q : Int) := by omega
      have HGR := Lib.hid hgr; clear hgr
      go_wp2
      go_ret
      exact ⟨rfl, HGR.out, hb⟩
end Go.Proofs.Ytaaljmmnfgghfaa
namespace Go.Proofs.Ytaaljmmnfgghfaa
open Go.RowKit Go.Maps
theorem wk_ok {p : Pn} (h : okP p = true) : wfK (key p) := by
  have h2 := okP_parts.1 h
  exact ⟨WalkArith.wf_i64 (by simp only [key]; omega), WalkArith.wf_i64 (by simp only [key]; omega), WalkArith.wf_i64 (by simp only [key]; omega)⟩
theorem wk_rec {l : List Pn} {ll : List (List Int)} {r : Rc} (h : grOk l ll r = true) : Wk (recL ll r l) := fun p hp => wk_ok (okL_mem (recL_ok h) p hp)
theorem keys_len (x : List Pn) : (keys x).length = x.length := by unfold keys; rw [List.length_map]
end Go.Proofs.Ytaaljmmnfgghfaa
namespace Go.Proofs.Ytaaljmmnfgghfaa
open Go.RowKit Go.Maps
/-- What the map tells of one person. -/
theorem grp_look {w : World} {b n : Nat} {x : List Key} (h : Grp w b n x) {p : Pn} (hp : wfK (key p)) : ∀ u : World, u.heap[b]? = w.heap[b]? →
    (Instr.lookup TM (.map (some b)) (.agg #[.int .i64 p.area, .int .i64 p.job, .int .i64 p.sex]) false).run Try.prog u = .ok (.int .i64 (cn x (key p) : Nat)) u := fun u hu => by
  obtain ⟨D, hown, ht⟩ := h
  obtain ⟨c', hrun, hc', _⟩ := (owns_block hown hu).lookup_int kLaw kMap kElem (kZero u) (kOf (key p) hp)
  rw [ht.at_ _ hp] at hc'
  have e : ((cn x (key p) : Nat) : Int) = c' := by simpa using hc'
  rw [e]; exact hrun
theorem Grp.lt {w : World} {b n : Nat} {x : List Key} (h : Grp w b n x) : b < w.heap.size := by obtain ⟨D, hown, _⟩ := h; exact hown.lt
set_option maxHeartbeats 1000000 in
theorem iGSize_any (l : List Pn) (q : Nat) (hq : q = l.length) (A : Option Addr) (c : Nat) (hlm : l.length ≤ maxLen) (ll : List (List Int)) (n : Nat) (hn : n = ll.length) (A2 : Option Addr) (c2 : Nat) (hl : ll.length ≤ maxLen) (r : Rc) (k : Int) (w : World) (hr : Row w w.heap.size A (pcells l)) (hll : LL w w.heap.size A2 ll) :
    Calls Try.prog 16 #[.slice A q c, .slice A2 n c2, r.val, .int .i64 k] w fun e w' => e = .returned (.int .i64 (gsize l ll r k)) ∧ Below w.heap.size w w' := by
  have HQ := Lib.hid hq
  have HN := Lib.hid hn
  clear hq hn
  obtain ⟨W, hW⟩ : ∃ W, W = (w.alloc (.cells #[.int .i64 r.area, .int .i64 r.job, .int .i64 r.sex] TRc)) := ⟨_, rfl⟩
  have hb1 : Below w.heap.size w W := by rw [hW]; exact (Below.refl _ _).alloc (Nat.le_refl _) _
  have HR := Lib.hid ((hr.below hb1 (Nat.le_refl _)).more hb1.size)
  have HL := Lib.hid (hll.moved hb1)
  have HB := Lib.hid hb1
  clear hr hll hb1
  cases hok : grOk l ll r
  · have HE := Lib.hid (show gsize l ll r k = -1 by simp [gsize, hok])
    have HOK := Lib.hid hok; clear hok
    go_enter Try.func16, Try.ntmps16
    go_wp2_with fail
    rw [← hW]
    clear hW
    refine (iRecPeople_no l q HQ.out A c hlm ll n HN.out A2 c2 hl r HOK.out _ HR.out HL.out).mono ?_
    rintro e w2 ⟨v, rfl, _, h2⟩
    have HB2 := Lib.hid (HB.out.trans (h2.mono HB.out.size)); clear h2
    go_wp2
    go_ret
    exact ⟨reti HE.out.symm, HB2.out⟩
  · have HOK := Lib.hid hok
    have h40 : l.length ≤ 40 := by have h : okL l = true ∧ rcOk ll r = true := by simpa [grOk] using hok
                                   exact (okL_all h.1).1
    have hq40 : q ≤ 40 := by rw [HQ.out]; exact h40
    have HWK := Lib.hid (wk_rec hok)
    clear hok
    go_enter Try.func16, Try.ntmps16
    go_wp2_with fail
    rw [← hW]
    clear hW
    refine (iRecPeople_yes l q HQ.out A c ll n HN.out A2 c2 r HOK.out _ HR.out HL.out).mono ?_
    rintro e w2 ⟨v, rfl, ho2, h2⟩
    obtain ⟨x, hx⟩ : ∃ x, recL ll r l = x := ⟨_, rfl⟩
    rw [hx] at ho2 HWK
    have HX := Lib.hid hx
    have HXL := Lib.hid (show q = x.length by rw [← hx, recL_len, HQ.out])
    have hx6 : x.length ≤ 1000000 := by rw [← HXL.out]; omega
    clear hx
    obtain ⟨Ax, cx, hv, hc1, hc2, hrx, _⟩ := ho2.form
    rw [← HXL.out] at hv hc1
    subst hv
    have HRX := Lib.hid hrx
    have HB2 := Lib.hid (HB.out.trans (h2.mono HB.out.size))
    clear h2 ho2 hrx
    by_cases hk0 : k < 0
    · have HE := Lib.hid (show gsize l ll r k = -1 by rw [gsize, if_neg]; simp [in3]; omega)
      go_wp2
      go_ret
      exact ⟨reti HE.out.symm, HB2.out⟩
    by_cases hkq : k < q
    · obtain ⟨k, rfl⟩ := Int.eq_ofNat_of_zero_le (show 0 ≤ k by omega)
      have hkx : k < x.length := by rw [← HXL.out]; omega
      have HE := Lib.hid (show gsize l ll r k = (cn (keys x) (key x[k]) : Nat) by
        rw [gsize, if_pos (by rw [HOK.out]; simp [in3]; have := HQ.out; omega), HX.out, sizeAt, List.getD_eq_getElem?_getD, Int.toNat_natCast, List.getElem?_eq_getElem hkx]; rfl)
      obtain ⟨bq, o, rfl, hbw, c0, c1, c2', c3⟩ := HRX.out.at_ k hkx
      have HKW := Lib.hid (HWK.out x[k] (List.getElem_mem hkx))
      obtain ⟨p, hp⟩ : ∃ p, x[k] = p := ⟨_, rfl⟩
      rw [hp] at c0 c1 c2' c3 HKW HE
      clear hp
      have HF := Lib.hid (show ∀ w' : World, Below w2.heap.size w2 w' → (Below w2.heap.size w2 w' ∧ w'.cell? ⟨bq, o + k * 4, none⟩ = some (.int .i64 p.area) ∧ w'.cell? ⟨bq, o + k * 4 + 1, none⟩ = some (.int .i64 p.job) ∧ w'.cell? ⟨bq, o + k * 4 + 2, none⟩ = some (.int .i64 p.sex) ∧ w'.cell? ⟨bq, o + k * 4 + 3, none⟩ = some (.int .i64 p.pay)) from
        fun w' h => ⟨h, (h.cell hbw).trans c0, (h.cell hbw).trans c1, (h.cell hbw).trans c2', (h.cell hbw).trans c3⟩)
      have HB0 := Lib.hid (show Below w2.heap.size w2 w2.drew from (Below.refl _ _).drew)
      clear c0 c1 c2' c3 hbw
      go_wp2
      go_region_held3 (fun w' => Below w2.heap.size w2 w' ∧ w'.cell? ⟨bq, o + k * 4, none⟩ = some (.int .i64 p.area) ∧ w'.cell? ⟨bq, o + k * 4 + 1, none⟩ = some (.int .i64 p.job) ∧ w'.cell? ⟨bq, o + k * 4 + 2, none⟩ = some (.int .i64 p.sex) ∧ w'.cell? ⟨bq, o + k * 4 + 3, none⟩ = some (.int .i64 p.pay))
        (first | exact HF.out _ HB0.out | exact HF.out _ HBc.out | exact HF.out _ HBs.out | assumption)
        (first
          | (go_at_call 33
             have HBn := Lib.hid (And.left (by assumption))
             refine (iCodes_any p _).mono ?_
             rintro e wc ⟨rfl, hc⟩
             have HBc := Lib.hid (HBn.out.trans (hc.mono HBn.out.size))
             first | (have r2 : (Instr.lookup TM (.map (some w2.heap.size)) (.agg #[.int .i64 p.area, .int .i64 p.job, .int .i64 p.sex]) false).run Try.prog wc = .ok (.int .i64 (cn (keys x) (key p) : Nat)) wc := HLK.out wc (hc.block _ HLT.out)) | skip
             clear hc HBn)
          | (go_at_call 32
             have HBn := Lib.hid (And.left (by assumption))
             refine (iSizes_any x q HXL.out hx6 HWK.out _ cx _ (HRX.out.moved HBn.out)).mono ?_
             rintro e ws ⟨rfl, hgs, hs⟩
             have HBs := Lib.hid (HBn.out.trans (hs.mono HBn.out.size))
             have HLK := Lib.hid (grp_look hgs HKW.out)
             have HLT := Lib.hid hgs.lt
             have r1 := HLK.out ws rfl
             clear hs hgs HBn))
      all_goals
        go_wp2
        go_ret
        exact ⟨reti HE.out.symm, HB2.out.trans (Below.mono (And.left (by assumption)) HB2.out.size)⟩
    · have HE := Lib.hid (show gsize l ll r k = -1 by rw [gsize, if_neg]; simp [in3]; have := HQ.out; omega)
      go_wp2
      go_ret
      exact ⟨reti HE.out.symm, HB2.out⟩
end Go.Proofs.Ytaaljmmnfgghfaa
namespace Go.Proofs.Ytaaljmmnfgghfaa
open Go.RowKit Go.Maps
/-- The groups that have come. -/
def come (left : Lit → Bool) (a : Key) : Bool := !left (kl a)
theorem come_start {D : Dm} {x : List Key} (h : Tells D x) (hw : ∀ a ∈ x, wfK a) : ∀ a ∈ x, come (Maps.has D) a = false := fun a ha => by
  rw [come, h.has a (hw a ha)]; simp [ha]
theorem come_end {left : Lit → Bool} (h : ∀ l, left l = false) (x : List Key) : ∀ a ∈ x, come left a = true := fun a _ => by rw [come, h]; rfl
theorem come_step {left : Lit → Bool} {x : List Key} {q : Key} (hq : wfK q) (hw : ∀ a ∈ x, wfK a) : ∀ a ∈ x, come (fun z => left z && !z.sameKey (kl q)) a = (come left a || decide (a = q)) := fun a ha => by
  simp only [come, kl_same (hw a ha) hq]
  cases left (kl a) <;> cases decide (a = q) <;> rfl
section
variable (w : World) {ops : Array Oper} {rest : List Oper} {o : Oper} {a : Act} {Q : Exit → Act → World → Prop}
theorem next_grp (hg : o.guard = none) (it : Operand) (hop : o.op = Op.next it false) (b r n : Nat) (D : Dm) (left : Lit → Bool) (cnt : Nat) (x : List Key) (hit : a.eval it = .pointer (some ⟨r, 0, none⟩)) (h : w.ranges Try.prog TK eInt b r n D left cnt) (ht : Tells D x)
    (hDone : (∀ l, left l = false) → wpList Try.prog ops Q rest (a.put o.dst (.tuple #[.bool false])) w)
    (hMore : ∀ (q : Key) (w' : World) (cnt' : Nat), wfK q → q ∈ x → left (kl q) = true → w'.ranges Try.prog TK eInt b r n D (fun z => left z && !z.sameKey (kl q)) cnt' → cnt' < cnt → w.grownBy w' (some r) →
      (Instr.entry (.pointer (some ⟨r, 0, none⟩))).run Try.prog w' = .ok (.tuple #[kv q, .int .i64 (cn x q : Nat)]) w' → wpList Try.prog ops Q rest (a.put o.dst (.tuple #[.bool true, kv q, .int .i64 (cn x q : Nat)])) w') :
    wpList Try.prog ops Q (o :: rest) a w :=
  wpList_next_ranges w hg it hop TK kLaw eInt kv (Value.int .i64) (fun key l hkey => by obtain ⟨q, e, _⟩ := kInv hkey; exact ⟨q, e⟩) (fun v y hv => by obtain ⟨c, e, _⟩ := plainElem_int_inv kElem hv; exact ⟨c, e⟩)
    b r n D left cnt hit h (fun _ hl => hDone hl) (fun q c l y w' cnt' hkey hlk hv hat hrg hlt hgr _ hen => by
      obtain ⟨q', e1, hq, rfl⟩ := kInv hkey
      have e2 : q = q' := by
        obtain ⟨q1, q2, q3⟩ := q
        obtain ⟨p1, p2, p3⟩ := q'
        simpa using e1
      subst e2
      obtain ⟨c', e3, rfl, _⟩ := plainElem_int_inv kElem hv
      cases e3
      have e4 := hat (num 0)
      rw [ht.at_ q hq] at e4
      have e5 : ((cn x q : Nat) : Int) = c := by simpa using e4
      subst e5
      have hin : q ∈ x := by have h1 := Maps.has_true_of_atKey hat; rw [ht.has q hq] at h1; simpa using h1
      exact hMore q w' cnt' hq hin hlk hrg hlt hgr hen)
end
end Go.Proofs.Ytaaljmmnfgghfaa
namespace Go.Proofs.Ytaaljmmnfgghfaa
open Go.RowKit Go.Maps
end Go.Proofs.Ytaaljmmnfgghfaa
namespace Go.Proofs.Ytaaljmmnfgghfaa
open Go.RowKit
end Go.Proofs.Ytaaljmmnfgghfaa
