/- Contracts of the model: diversity. -/
import Derived.Test.YtaaljmmnfgghfaaDM2
import Derived.Test.YtaaljmmnfgghfaaGC
import Derived.Lib.SliceRun
import Derived.StillTailTactics
namespace Go.Proofs.Ytaaljmmnfgghfaa
open Go.RowKit
section
variable {α : Type} [DecidableEq α]
/-- The bands of a group as a row. -/
def rowB (y : List (α × Int)) (a : α) : List Int := (List.range 10).map fun (i : Nat) => (nb y a (i : Int) : Int)
theorem rowB_len (y : List (α × Int)) (a : α) : (rowB y a).length = 10 := by simp [rowB]
theorem rowB_in (y : List (α × Int)) (a : α) {i : Nat} (hi : i < 10) : (rowB y a)[i]? = some (nb y a (i : Int) : Int) := by
  rw [rowB, List.getElem?_map, List.getElem?_range hi]; rfl
theorem rowB_nil (a : α) : rowB ([] : List (α × Int)) a = List.replicate 10 0 := rfl
theorem nb_one (q : α × Int) (a : α) (b : Int) : nb [q] a b = if q.1 = a ∧ q.2 = b then 1 else 0 := by rw [nb_cons]; simp [nb]
theorem rowB_no (y : List (α × Int)) (q : α × Int) (a : α) (h : q.1 ≠ a) : rowB (y ++ [q]) a = rowB y a := by
  unfold rowB
  refine List.map_congr_left fun i _ => ?_
  rw [nb_app, nb_one, if_neg fun h2 => h h2.1, Nat.add_zero]
theorem rowB_yes (y : List (α × Int)) (q : α × Int) (a : α) (h : q.1 = a) {i : Nat} (hi : i < 10) (hq : q.2 = i) : rowB (y ++ [q]) a = (rowB y a).set i ((nb y a (i : Int) : Int) + 1) := by
  refine List.ext_getElem? fun j => ?_
  by_cases hj : j < 10
  · rw [rowB_in _ _ hj, List.getElem?_set, rowB_len, nb_app, nb_one]
    by_cases hij : i = j
    · subst hij; rw [if_pos rfl, if_pos hi, if_pos ⟨h, hq⟩]; simp
    · rw [if_neg hij, if_neg (fun h2 => hij (by have := h2.2; omega)), rowB_in _ _ hj]; simp
  · rw [List.getElem?_eq_none (by rw [rowB_len]; omega), List.getElem?_eq_none (by rw [List.length_set, rowB_len]; omega)]
end
/-- How many numbers are not 0, none negative. -/
def manyI (x : List Int) : Int := (x.map fun v => if 1 ≤ v then (1 : Int) else v).sum
theorem manyI_snoc (x : List Int) (v : Int) : manyI (x ++ [v]) = manyI x + if 1 ≤ v then 1 else v := by simp [manyI]
theorem manyI_bd : ∀ x : List Int, (∀ v ∈ x, 0 ≤ v) → 0 ≤ manyI x ∧ manyI x ≤ x.length
  | [], _ => by simp [manyI]
  | v :: x, h => by
    have h1 := manyI_bd x fun u hu => h u (List.mem_cons_of_mem _ hu)
    have h2 := h v (by simp)
    have e : manyI (v :: x) = (if 1 ≤ v then 1 else v) + manyI x := by simp [manyI]
    rw [e, List.length_cons]
    split <;> omega
theorem manyI_nat {β : Type} (f : β → Nat) : ∀ L : List β, manyI (L.map fun b => (f b : Int)) = ((L.filter fun b => decide (0 < f b)).length : Nat)
  | [] => rfl
  | b :: L => by
    have h := manyI_nat f L
    have e : manyI ((b :: L).map fun b => (f b : Int)) = (if (1 : Int) ≤ (f b : Int) then 1 else (f b : Int)) + manyI (L.map fun b => (f b : Int)) := by simp [manyI]
    rw [e, h, List.filter_cons]
    by_cases hb : 0 < f b
    · rw [if_pos (by omega), if_pos (by simpa using hb), List.length_cons]; omega
    · rw [if_neg (by omega), if_neg (by simpa using hb)]; omega
theorem manyI_row {α : Type} [DecidableEq α] (y : List (α × Int)) (a : α) : manyI (rowB y a) = dsz y a := by
  have e : bnds = (List.range 10).map fun i : Nat => (i : Int) := rfl
  rw [rowB, manyI_nat fun i : Nat => nb y a (i : Int), dsz, e, List.filter_map, List.length_map]
  rfl
theorem rowB_nn {α : Type} [DecidableEq α] (y : List (α × Int)) (a : α) : ∀ v ∈ rowB y a, 0 ≤ v := fun v hv => by
  obtain ⟨i, _, rfl⟩ := List.mem_map.1 hv; omega
theorem sMany_is (W : World) (x : List Int) (q : Nat) (hq : q = x.length) (hx : ∀ v ∈ x, 0 ≤ v) (hx2 : x.length ≤ 1000) (A : Option Addr) (c : Nat) (hr : Row W W.heap.size A (icells x)) (g : Int) (hg : manyI x = g) (w : World) (hb : Below W.heap.size W w) :
    Calls Try.prog 30 #[.slice A q c] w (Back (.int .i64 g) W) := by
  have HR := Lib.hid hr; clear hr
  have HQ := Lib.hid hq
  have HX := Lib.hid hx
  have HG := Lib.hid hg; clear hg
  have hq6 : q ≤ 1000 := by omega
  clear hq hx
  go_enter Try.func30, Try.ntmps30
  go_wp2
  go_loopw [3, 4] (fun v i wr => ∃ j : Nat, j ≤ q ∧ i = .int .i64 j ∧ v = .int .i64 (manyI (x.take j)) ∧ Below W.heap.size W wr) (fun _ i _ => q - (intOf i).toNat)
  case atStart => exact ⟨0, Nat.zero_le _, rfl, rfl, hb⟩
  case round =>
    obtain ⟨j, hj, rfl, rfl, hb⟩ := hrel
    by_cases hlt : j < q
    · have hji : (j : Int) < (q : Int) := by omega
      have hjx : j < x.length := by rw [← HQ.out]; exact hlt
      have hm := manyI_bd (x.take j) fun v hv => HX.out v (List.mem_of_mem_take hv)
      have hl := List.length_take_le j x
      have HS := Lib.hid (show manyI (x.take (j + 1)) = manyI (x.take j) + if 1 ≤ x[j] then 1 else x[j] by rw [List.take_succ_eq_append_getElem hjx, manyI_snoc])
      have hz0 := HX.out x[j] (List.getElem_mem hjx)
      obtain ⟨b, o, rfl, hbx, hc⟩ := HR.out.int_ j hjx
      rw [List.getD_eq_getElem?_getD, List.getElem?_eq_getElem hjx, Option.getD_some] at hc
      have c0 := (hb.cell (p := ⟨b, o + j, none⟩) hbx).trans hc
      obtain ⟨s, hs⟩ : ∃ s, manyI (x.take j) = s := ⟨_, rfl⟩
      rw [hs] at HS hm ⊢
      obtain ⟨z, hz⟩ : ∃ z, x[j] = z := ⟨_, rfl⟩
      rw [hz] at HS hz0 c0
      clear hs hz hc
      by_cases h1 : 1 ≤ z
      · rw [if_pos h1] at HS
        go_wp2
        go_roundw
        case rel => exact ⟨j + 1, by omega, by go_num, by rw [HS.out], hb⟩
        case measure => simp [intOf]; omega
      · rw [if_neg h1] at HS
        go_wp2
        go_roundw
        case rel => exact ⟨j + 1, by omega, by go_num, by rw [HS.out], hb⟩
        case measure => simp [intOf]; omega
    · have hjq : j = x.length := by rw [← HQ.out]; omega
      have hall : manyI (x.take j) = manyI x := by rw [hjq, List.take_length]
      rw [hall]
      go_wp2
      go_ret
      exact ⟨reti HG.out, hb⟩
/-- The row of bands of a group among the first people. -/
def bandRow (x : List Pn) (k n : Nat) : List Int := rowB (prs (x.take n)) (key (x.getD k p00))
theorem bandRow_len (x : List Pn) (k n : Nat) : (icells (bandRow x k n)).length = 10 := by rw [icells_len]; exact rowB_len _ _
theorem prs_take_succ (x : List Pn) (n : Nat) (hn : n < x.length) : prs (x.take (n + 1)) = prs (x.take n) ++ [(key x[n], bd x[n])] := by
  unfold prs; rw [List.take_succ_eq_append_getElem hn, List.map_append]; rfl
theorem bandRow_no (x : List Pn) (k n : Nat) (hn : n < x.length) (h : key x[n] ≠ key (x.getD k p00)) : bandRow x k (n + 1) = bandRow x k n := by
  unfold bandRow; rw [prs_take_succ x n hn]; exact rowB_no _ _ _ h
theorem bandRow_yes (x : List Pn) (k n : Nat) (hn : n < x.length) (h : key x[n] = key (x.getD k p00)) {i : Nat} (hi : i < 10) (hb : bd x[n] = i) :
    (icells (bandRow x k n))[i]? = some (.int .i64 (nb (prs (x.take n)) (key (x.getD k p00)) (i : Int) : Nat)) ∧ icells (bandRow x k (n + 1)) = (icells (bandRow x k n)).set i (.int .i64 ((nb (prs (x.take n)) (key (x.getD k p00)) (i : Int) : Nat) + 1)) := by
  unfold bandRow icells
  refine ⟨?_, ?_⟩
  · rw [List.getElem?_map, rowB_in _ _ hi]; rfl
  · rw [prs_take_succ x n hn, rowB_yes _ _ _ h hi hb, List.map_set]
theorem nb_len {α : Type} [DecidableEq α] (y : List (α × Int)) (a : α) (b : Int) : nb y a b ≤ y.length := List.length_filter_le _ _
set_option maxHeartbeats 2000000 in
theorem sBands_at (W : World) (x : List Pn) (q : Nat) (hq : q = x.length) (A : Option Addr) (c k : Nat) (hk : k < q) (hx : okL x = true) (hr : Row W W.heap.size A (pcells x)) (w : World) (hb : Below W.heap.size W w) :
    Calls Try.prog 31 #[.slice A q c, .int .i64 k] w fun e w' => e = .returned (.slice (some ⟨w.heap.size, 0, none⟩) 10 10) ∧ Own1 TN w' w.heap.size (.slice (some ⟨w.heap.size, 0, none⟩) 10 10) (icells (bandRow x k q)) ∧ Below w.heap.size w w' := by
  have HR := Lib.hid ((hr.below hb (Nat.le_refl _)).more hb.size)
  clear hr hb
  have h40 := (okL_all hx).1
  have HOK := Lib.hid (okL_mem hx)
  have HQ := Lib.hid hq
  have hq6 : q ≤ 40 := by omega
  have hkx : k < x.length := by omega
  have hki : (k : Int) < (q : Int) := by omega
  clear hq hx
  obtain ⟨ht, z, bz, hi, hz1, hb8⟩ := one_I
  obtain ⟨i0, hi0, hz0, hs0, hs1⟩ := info_parts (P := Try.prog) (e := TN) (z := .int .i64 0) (size := 1) (bytes := 8) (by kernel_rfl)
  clear ht hi hz1 hb8 bz z
  obtain ⟨b, o, rfl, hbw, c0, c1, c2, c3⟩ := HR.out.at_ k hkx
  have HGK := Lib.hid (show x.getD k p00 = x[k] by rw [List.getD_eq_getElem?_getD, List.getElem?_eq_getElem hkx]; rfl)
  go_enter Try.func31, Try.ntmps31
  go_wp2_with (at_make; go_loud (refine wpList_make_full _ rfl _ _ 36 rfl w.heap.size TN i0 (.int .i64 0) 1 Try.underlying36 hi0 hz0 hs0 _ _ _ _ 10 rfl rfl rfl rfl (by rw [hs1]; omega) (by simp only [maxLen]; omega) (Nat.le_refl _) ?_); intro w1 ho hg)
  have ho1 : Own1 TN w1 w.heap.size (.slice (some ⟨w.heap.size, 0, none⟩) 10 10) (icells (bandRow x k 0)) := by
    have h := ho
    have e : (Value.int IntKind.i64 0).cells = #[.int .i64 0] := rfl
    rw [e, made_one] at h
    exact h
  have HO := Lib.hid ho1
  have HB := Lib.hid (show Below w.heap.size w w1 from (Below.refl _ _).grown hg (Nat.le_refl _) (fun k hk => by cases hk))
  clear ho ho1 hg hi0 hz0 hs0 hs1
  obtain ⟨G, hG⟩ : ∃ G, w.heap.size = G := ⟨_, rfl⟩
  rw [hG] at HO HB HR hbw ⊢
  have HG := Lib.hid hG; clear hG
  go_loopw [6] (fun i wr => ∃ j : Nat, j ≤ q ∧ i = .int .i64 j ∧ Own1 TN wr G (.slice (some ⟨G, 0, none⟩) 10 10) (icells (bandRow x k j)) ∧ Below G w wr) (fun i _ => q - (intOf i).toNat)
  case atStart => exact ⟨0, Nat.zero_le _, rfl, HO.out, HB.out⟩
  case round =>
    obtain ⟨j, hj, rfl, ho, hb⟩ := hrel
    clear HO HB
    have HO := Lib.hid ho
    have hzr := (ho.ob G rfl).2
    clear ho
    by_cases hlt : j < q
    · have hji : (j : Int) < (q : Int) := by omega
      have hjx : j < x.length := by rw [← HQ.out]; exact hlt
      obtain ⟨b2, o2, hA, _, e0, e1, e2, e3⟩ := HR.out.at_ j hjx
      injection hA with hA
      injection hA with g1 g2 _
      subst g1 g2
      have HP := Lib.hid (okP_parts.1 (HOK.out x[j] (List.getElem_mem hjx)))
      have HN := Lib.hid (bandRow_no x k j hjx)
      have HY := Lib.hid (fun (h : key x[j] = key (x.getD k p00)) (i : Nat) (hi : i < 10) (hq : bd x[j] = i) => bandRow_yes x k j hjx h hi hq)
      obtain ⟨p, hp⟩ : ∃ p, x[k] = p := ⟨_, rfl⟩
      obtain ⟨p2, hp2⟩ : ∃ p2, x[j] = p2 := ⟨_, rfl⟩
      rw [hp] at c0 c1 c2 c3
      rw [hp2] at e0 e1 e2 e3 HP HN HY
      rw [HGK.out, hp] at HN HY
      have HF := Lib.hid (show ∀ w' : World, Below wr.heap.size wr w' → (Below wr.heap.size wr w' ∧ (w'.cell? ⟨b, o + k * 4, none⟩ = some (.int .i64 p.area) ∧ w'.cell? ⟨b, o + k * 4 + 1, none⟩ = some (.int .i64 p.job) ∧ w'.cell? ⟨b, o + k * 4 + 2, none⟩ = some (.int .i64 p.sex) ∧ w'.cell? ⟨b, o + k * 4 + 3, none⟩ = some (.int .i64 p.pay)) ∧ w'.cell? ⟨b, o + j * 4, none⟩ = some (.int .i64 p2.area) ∧ w'.cell? ⟨b, o + j * 4 + 1, none⟩ = some (.int .i64 p2.job) ∧ w'.cell? ⟨b, o + j * 4 + 2, none⟩ = some (.int .i64 p2.sex) ∧ w'.cell? ⟨b, o + j * 4 + 3, none⟩ = some (.int .i64 p2.pay)) from
        fun w' h => by
          have hh : Below G w w' := hb.trans (h.mono (Nat.le_of_lt hzr))
          exact ⟨h, ⟨(hh.cell hbw).trans c0, (hh.cell hbw).trans c1, (hh.cell hbw).trans c2, (hh.cell hbw).trans c3⟩, (hh.cell hbw).trans e0, (hh.cell hbw).trans e1, (hh.cell hbw).trans e2, (hh.cell hbw).trans e3⟩)
      have b0 : Below wr.heap.size wr wr.drew := (Below.refl _ _).drew
      clear e0 e1 e2 e3 c0 c1 c2 c3 hp hp2
      obtain ⟨t, ht⟩ : ∃ t, decide (key p2 = key p) = t := ⟨_, rfl⟩
      have HT := Lib.hid ht
      clear ht
      have HBW := Lib.hid hb
      clear hb
      go_wp2
      go_region_held3 (fun w' => (Below wr.heap.size wr w' ∧ (w'.cell? ⟨b, o + k * 4, none⟩ = some (.int .i64 p.area) ∧ w'.cell? ⟨b, o + k * 4 + 1, none⟩ = some (.int .i64 p.job) ∧ w'.cell? ⟨b, o + k * 4 + 2, none⟩ = some (.int .i64 p.sex) ∧ w'.cell? ⟨b, o + k * 4 + 3, none⟩ = some (.int .i64 p.pay)) ∧ w'.cell? ⟨b, o + j * 4, none⟩ = some (.int .i64 p2.area) ∧ w'.cell? ⟨b, o + j * 4 + 1, none⟩ = some (.int .i64 p2.job) ∧ w'.cell? ⟨b, o + j * 4 + 2, none⟩ = some (.int .i64 p2.sex) ∧ w'.cell? ⟨b, o + j * 4 + 3, none⟩ = some (.int .i64 p2.pay)))
        (first | exact HF.out _ (by assumption) | exact HF.out _ b0)
        (first
          | (go_at_call 46
             refine (sSame_at p2 p t HT.out _).mono ?_
             rintro e w3 ⟨rfl, h3⟩
             have h3' : Below wr.heap.size wr w3 := b0.trans (h3.mono b0.size)
             clear h3))
      cases t
      · have HS := Lib.hid (HN.out (of_decide_eq_false HT.out))
        rename_i w5 _ _ hS
        obtain ⟨h5, hcs⟩ := hS
        have HO5 := Lib.hid (HO.out.below h5)
        have HB5 := Lib.hid (HBW.out.trans (h5.mono (Nat.le_of_lt hzr)))
        clear hcs
        go_wp2
        go_roundw
        case rel => exact ⟨j + 1, by omega, by go_num, by rw [HS.out]; exact HO5.out, HB5.out⟩
        case measure => simp [intOf]; omega
      · have hkey := of_decide_eq_true HT.out
        obtain ⟨i, hi⟩ : ∃ i : Nat, p2.pay / 100 = i := ⟨(p2.pay / 100).toNat, by have := HP.out; omega⟩
        have hp0 := HP.out.2.2.2.2.2.2
        have hi10 : i < 10 := by omega
        obtain ⟨hget, hset⟩ := HY.out hkey i hi10 hi
        have hq : Int.tdiv p2.pay 100 = (i : Int) := by rw [Int.tdiv_eq_ediv_of_nonneg hp0.1]; exact hi
        have hwi : IntKind.i64.wrap (i : Int) = (i : Int) := by rw [IntKind.wrap_i64]; omega
        obtain ⟨c0, f0⟩ := (HO.out.below h3').cellAt i (by rw [bandRow_len]; exact hi10)
        rw [hget] at c0
        have hnb := nb_len (prs (x.take j)) (key p) (i : Int)
        have hl := List.length_take_le j x
        rw [prs_len] at hnb
        obtain ⟨n, hn⟩ : ∃ n, nb (prs (x.take j)) (key p) (i : Int) = n := ⟨_, rfl⟩
        rw [hn] at hget hset c0 hnb
        have e3 := (HF.out _ h3').2.2.2.2.2
        have HGET := Lib.hid hget
        have HS := Lib.hid hset
        clear hget hset hp0 hn
        have hi1 : (0 : Int) ≤ (i : Int) := by omega
        have hi2 : (i : Int) < 10 := by omega
        have hk1 : 0 ≤ p2.pay := by have := HP.out; omega
        have hwn : IntKind.i64.wrap ((n : Int) + 1) = (n : Int) + 1 := by rw [IntKind.wrap_i64]; omega
        go_wp2
        go_still_tail 18, (by kernel_rfl)
        change wpList _ _ _ _ _ w3.drew
        obtain ⟨w4, hw4⟩ : ∃ w4, w4 = w3.drew := ⟨_, rfl⟩
        rw [← hw4]
        have h4 : Below wr.heap.size wr w4 := by rw [hw4]; exact h3'.drew
        have h5 := HBW.out.trans (h4.mono (Nat.le_of_lt hzr))
        have HB5 := Lib.hid (h5.setCell (p := ⟨G, i, none⟩) (Nat.le_refl G) (.int .i64 ((n : Int) + 1)))
        have HW := Lib.hid ((HO.out.below h4).setAt i (.int .i64 ((n : Int) + 1)))
        obtain ⟨c4, f4⟩ := (HO.out.below h4).cellAt i (by rw [bandRow_len]; exact hi10)
        rw [HGET.out] at c4
        clear c0 f0 e3 hw4 h4 h5 hq hi hkey
        go_wp2
        go_roundw
        case rel => exact ⟨j + 1, by omega, by go_num, by rw [HS.out]; exact HW.out, HB5.out⟩
        case measure => simp [intOf]; omega
    · have hjq : j = q := by omega
      subst hjq
      go_wp2
      go_ret
      rw [HG.out]
      exact ⟨rfl, HO.out, hb⟩
end Go.Proofs.Ytaaljmmnfgghfaa
