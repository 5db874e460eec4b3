/- Diversity: what the laws ask of it. -/
import Derived.Test.YtaaljmmnfgghfaaDM
namespace Go.Proofs.Ytaaljmmnfgghfaa
open Go.RowKit
section
variable {α : Type} [DecidableEq α]
theorem foldl_min_ge (m : Nat) : ∀ (l : List Nat) (n : Nat), m ≤ n → (∀ a ∈ l, m ≤ a) → m ≤ l.foldl min n
  | [], _, h, _ => h
  | a :: l, n, h, h2 => foldl_min_ge m l (min n a) (by have := h2 a (by simp); omega) fun b hb => h2 b (List.mem_cons_of_mem _ hb)
theorem dlst_le {y : List (α × Int)} {q : α × Int} (h : q ∈ y) : dlst y ≤ dsz y q.1 := (foldl_min_le _ _).2 _ (List.mem_map.2 ⟨q, h, rfl⟩)
theorem dlst_ge {y : List (α × Int)} {m : Nat} (h : ∀ q ∈ y, m ≤ dsz y q.1) (h2 : m ≤ y.length) : m ≤ dlst y := foldl_min_ge m _ _ h2 fun a ha => by
  obtain ⟨q, hq, rfl⟩ := List.mem_map.1 ha; exact h q hq
theorem dlst_is {y : List (α × Int)} (hy : Bn y) (h : y ≠ []) : ∃ q ∈ y, dlst y = dsz y q.1 := by
  rcases foldl_min_mem (y.map fun q => dsz y q.1) y.length with h1 | h1
  · cases y with
    | nil => exact absurd rfl h
    | cons q l =>
      refine ⟨q, by simp, ?_⟩
      have h2 := dlst_le (y := q :: l) (q := q) (by simp)
      have h3 := dsz_kn hy q.1
      have h4 := kn_le (q :: l) q.1
      unfold dlst at *
      omega
  · obtain ⟨q, hq, he⟩ := List.mem_map.1 h1
    exact ⟨q, hq, he.symm⟩
theorem dlst_nil : dlst ([] : List (α × Int)) = 0 := rfl
theorem dlst_eq {y : List (α × Int)} (hy : Bn y) {n : Nat} (h1 : ∀ q ∈ y, n ≤ dsz y q.1) (h2 : ∃ q ∈ y, dsz y q.1 = n) : dlst y = n := by
  obtain ⟨q, hq, he⟩ := h2
  obtain ⟨p, hp, hp2⟩ := dlst_is hy (fun e => by rw [e] at hq; cases hq)
  have := dlst_le hq
  have := h1 p hp
  omega
omit [DecidableEq α] in
theorem bn_perm {x y : List (α × Int)} (h : x.Perm y) (hy : Bn y) : Bn x := fun q hq => hy q (h.mem_iff.1 hq)
theorem dlst_perm {x y : List (α × Int)} (h : x.Perm y) (hy : Bn y) : dlst x = dlst y := by
  by_cases he : y = []
  · subst he; have := h.eq_nil; subst this; rfl
  · obtain ⟨q, hq, hd⟩ := dlst_is hy he
    exact dlst_eq (bn_perm h hy) (fun p hp => by rw [dsz_perm h]; exact dlst_le (h.mem_iff.1 hp)) ⟨q, h.mem_iff.2 hq, by rw [dsz_perm h]; exact hd.symm⟩
theorem dlst_twice {y : List (α × Int)} (hy : Bn y) : dlst (y ++ y) = dlst y := by
  by_cases he : y = []
  · subst he; rfl
  · obtain ⟨q, hq, hd⟩ := dlst_is hy he
    exact dlst_eq (fun p hp => by rcases List.mem_append.1 hp with h | h <;> exact hy p h) (fun p hp => by rw [dsz_twice]; exact dlst_le (by rcases List.mem_append.1 hp with h | h <;> exact h)) ⟨q, List.mem_append.2 (.inl hq), by rw [dsz_twice]; exact hd.symm⟩
theorem dlst_map {β : Type} [DecidableEq β] (f : α → β) (y : List (α × Int)) : dlst y ≤ dlst (y.map fun q => (f q.1, q.2)) := by
  refine dlst_ge (fun q hq => ?_) (by rw [List.length_map]; exact (foldl_min_le _ _).1)
  obtain ⟨p, hp, rfl⟩ := List.mem_map.1 hq
  have h1 := dlst_le hp
  have h2 := dsz_mono (y := y) (z := y.map fun q => (f q.1, q.2)) (a := p.1) (c := f p.1) fun b hb => by have := nb_map f y p.1 b; omega
  exact Nat.le_trans h1 h2
end
def bd (p : Pn) : Int := p.pay / 100
def prs (x : List Pn) : List ((Int × Int × Int) × Int) := x.map fun p => (key p, bd p)
def prsOf (l : List Pn) (ll : List (List Int)) (r : Rc) : List ((Int × Int × Int) × Int) := prs (recL ll r l)
theorem prs_keys (x : List Pn) : (prs x).map Prod.fst = keys x := by unfold prs keys; rw [List.map_map]; rfl
theorem kn_prs (x : List Pn) (a : Int × Int × Int) : kn (prs x) a = cn (keys x) a := by rw [kn_cn, prs_keys]
theorem prs_len (x : List Pn) : (prs x).length = x.length := by unfold prs; rw [List.length_map]
theorem prsOf_len (l : List Pn) (ll : List (List Int)) (r : Rc) : (prsOf l ll r).length = l.length := by unfold prsOf; rw [prs_len, recL_len]
theorem bd_in {p : Pn} (h : okP p = true) : bd p ∈ bnds := by have := okP_parts.1 h; exact bnds_mem.2 (by simp only [bd]; omega)
theorem prs_bn {x : List Pn} (h : okL x = true) : Bn (prs x) := fun q hq => by
  obtain ⟨p, hp, rfl⟩ := List.mem_map.1 hq; exact bd_in (okL_mem h p hp)
theorem prsOf_bn {l : List Pn} {ll : List (List Int)} {r : Rc} (h : grOk l ll r = true) : Bn (prsOf l ll r) := prs_bn (recL_ok h)
theorem prsOf_app (l m : List Pn) (ll : List (List Int)) (r : Rc) : prsOf (l ++ m) ll r = prsOf l ll r ++ prsOf m ll r := by simp [prsOf, prs, recL]
theorem prsOf_perm {l m : List Pn} (h : l.Perm m) (ll : List (List Int)) (r : Rc) : (prsOf l ll r).Perm (prsOf m ll r) := (h.map _).map _
theorem prsOf_finer {l : List Pn} {ll : List (List Int)} {r s : Rc} (hl : okL l = true) (hr : rcOk ll r = true) (hs : rcOk ll s = true) (hf : finer r s) : prsOf l ll s = (prsOf l ll r).map fun q => (fk ll s q.1, q.2) := by
  unfold prsOf
  rw [← recL_chain hl hr hs hf]
  unfold prs recL
  simp only [List.map_map]; rfl
theorem ky_finer {l : List Pn} {ll : List (List Int)} {r s : Rc} (hl : okL l = true) (hr : rcOk ll r = true) (hs : rcOk ll s = true) (hf : finer r s) {k : Nat} (hk : k < l.length) : ky ll s l k = fk ll s (ky ll r l k) := by
  unfold ky
  have hp : okP (l.getD k p00) = true := by
    rw [List.getD_eq_getElem?_getD, List.getElem?_eq_getElem hk]; exact okL_mem hl _ (List.getElem_mem hk)
  rw [← rec1_chain hr hs hf hp]; rfl
theorem ky_prs {l : List Pn} (ll : List (List Int)) (r : Rc) {k : Nat} (hk : k < l.length) : (ky ll r l k, bd l[k]) ∈ prsOf l ll r := by
  unfold prsOf prs recL
  rw [List.map_map, List.mem_map]
  refine ⟨l[k], List.getElem_mem hk, ?_⟩
  unfold ky
  rw [List.getD_eq_getElem?_getD, List.getElem?_eq_getElem hk]; rfl
theorem prs_ky {l : List Pn} {ll : List (List Int)} {r : Rc} {q : (Int × Int × Int) × Int} (h : q ∈ prsOf l ll r) : ∃ k, k < l.length ∧ q.1 = ky ll r l k := by
  unfold prsOf prs recL at h
  rw [List.map_map, List.mem_map] at h
  obtain ⟨p, hp, rfl⟩ := h
  obtain ⟨k, hk, rfl⟩ := List.getElem_of_mem hp
  refine ⟨k, hk, ?_⟩
  unfold ky; rw [List.getD_eq_getElem?_getD, List.getElem?_eq_getElem hk]; rfl
def dk (l : List Pn) (ll : List (List Int)) (r : Rc) (k : Nat) : Nat := dsz (prsOf l ll r) (ky ll r l k)
def fkr (l : List Pn) (ll : List (List Int)) (r : Rc) (k : Nat) : Nat := dfar (prsOf l ll r) (ky ll r l k)
def dsize (l : List Pn) (ll : List (List Int)) (r : Rc) (k : Int) : Int := if (grOk l ll r && in3 k 0 (l.length - 1)) = true then dk l ll r k.toNat else -1
def dfarI (l : List Pn) (ll : List (List Int)) (r : Rc) (k : Int) : Int := if (grOk l ll r && in3 k 0 (l.length - 1)) = true then fkr l ll r k.toNat else -1
def dleast (l : List Pn) (ll : List (List Int)) (r : Rc) : Int := if grOk l ll r = true then dlst (prsOf l ll r) else -1
def dok (l : List Pn) (ll : List (List Int)) (r : Rc) (k m : Int) : Bool := in3 m 1 40 && aok l ll r k && (decide (l.length = 0) || decide (m ≤ dleast l ll r))
theorem at_in {l : List Pn} {ll : List (List Int)} {r : Rc} (h : grOk l ll r = true) {k : Nat} (hk : k < l.length) : (grOk l ll r && in3 (k : Int) 0 (l.length - 1)) = true := by simp [h, in3]; omega
theorem dsize_at {l : List Pn} {ll : List (List Int)} {r : Rc} (h : grOk l ll r = true) {k : Nat} (hk : k < l.length) : dsize l ll r k = dk l ll r k := by
  rw [dsize, if_pos (at_in h hk), Int.toNat_natCast]
theorem dfarI_at {l : List Pn} {ll : List (List Int)} {r : Rc} (h : grOk l ll r = true) {k : Nat} (hk : k < l.length) : dfarI l ll r k = fkr l ll r k := by
  rw [dfarI, if_pos (at_in h hk), Int.toNat_natCast]
theorem dsize_in {l : List Pn} {ll : List (List Int)} {r : Rc} {k : Int} (h : 0 ≤ dsize l ll r k) : grOk l ll r = true ∧ ∃ j : Nat, k = j ∧ j < l.length := by
  unfold dsize at h; split at h
  · rename_i hc
    simp only [Bool.and_eq_true, in3, decide_eq_true_eq] at hc
    exact ⟨hc.1, k.toNat, by omega, by omega⟩
  · omega
theorem dfarI_in {l : List Pn} {ll : List (List Int)} {r : Rc} {k : Int} (h : 0 ≤ dfarI l ll r k) : grOk l ll r = true ∧ ∃ j : Nat, k = j ∧ j < l.length := by
  unfold dfarI at h; split at h
  · rename_i hc
    simp only [Bool.and_eq_true, in3, decide_eq_true_eq] at hc
    exact ⟨hc.1, k.toNat, by omega, by omega⟩
  · omega
theorem dsize_no {l : List Pn} {ll : List (List Int)} {r : Rc} {k : Int} (h : dsize l ll r k < 0) : dsize l ll r k = -1 := by
  unfold dsize at *; split <;> rename_i hc
  · rw [if_pos hc] at h; omega
  · rfl
theorem dfarI_no {l : List Pn} {ll : List (List Int)} {r : Rc} {k : Int} (h : dfarI l ll r k < 0) : dfarI l ll r k = -1 := by
  unfold dfarI at *; split <;> rename_i hc
  · rw [if_pos hc] at h; omega
  · rfl
theorem dleast_at {l : List Pn} {ll : List (List Int)} {r : Rc} (h : grOk l ll r = true) : dleast l ll r = dlst (prsOf l ll r) := by rw [dleast, if_pos h]
theorem dleast_in {l : List Pn} {ll : List (List Int)} {r : Rc} (h : 0 ≤ dleast l ll r) : grOk l ll r = true := by
  unfold dleast at h; split at h
  · assumption
  · omega
theorem dleast_no {l : List Pn} {ll : List (List Int)} {r : Rc} (h : dleast l ll r < 0) : dleast l ll r = -1 := by
  unfold dleast at *; split <;> rename_i hc
  · rw [if_pos hc] at h; omega
  · rfl
theorem dk_bd {l : List Pn} {ll : List (List Int)} {r : Rc} (h : grOk l ll r = true) {k : Nat} (hk : k < l.length) : 1 ≤ dk l ll r k ∧ dk l ll r k ≤ 10 ∧ dk l ll r k ≤ cnk l ll r k :=
  ⟨dsz_pos (ky_prs ll r hk) (bd_in (okL_mem (gr_parts.1 h).1 _ (List.getElem_mem hk))), dsz_le _ _, by have := dsz_kn (prsOf_bn h) (ky ll r l k); rwa [prsOf, kn_prs] at this⟩
theorem dk_finer {l : List Pn} {ll : List (List Int)} {r s : Rc} (h : grOk l ll r = true) (hs : rcOk ll s = true) (hf : finer r s) {k : Nat} (hk : k < l.length) : dk l ll r k ≤ dk l ll s k := by
  obtain ⟨h1, h2⟩ := gr_parts.1 h
  unfold dk
  rw [prsOf_finer h1 h2 hs hf, ky_finer h1 h2 hs hf hk]
  exact dsz_mono fun b hb => by have := nb_map (fk ll s) (prsOf l ll r) (ky ll r l k) b; omega
/-- P69. -/
theorem m_diverse {l : List Pn} {ll : List (List Int)} {r : Rc} {k : Int} (h : 0 ≤ dsize l ll r k) : 1 ≤ dsize l ll r k ∧ dsize l ll r k ≤ 10 ∧ dsize l ll r k ≤ gsize l ll r k ∧ dsize l ll r k ≤ dsize l ll (rtop ll) k := by
  obtain ⟨hg, j, rfl, hj⟩ := dsize_in h
  obtain ⟨h1, h2⟩ := gr_parts.1 hg
  rw [dsize_at hg hj, gsize_at hg hj, dsize_at (gr_top hg) hj]
  have a := dk_bd hg hj
  have b := dk_finer hg (rtop_ok (rc_parts h2).1) (finer_top h2) hj
  omega
theorem dlst_dk {l : List Pn} {ll : List (List Int)} {r : Rc} {k : Nat} (hk : k < l.length) : dlst (prsOf l ll r) ≤ dk l ll r k := dlst_le (ky_prs ll r hk)
theorem dlst_dkis {l : List Pn} {ll : List (List Int)} {r : Rc} (h : grOk l ll r = true) (hl : l ≠ []) : ∃ k, k < l.length ∧ dk l ll r k = dlst (prsOf l ll r) := by
  obtain ⟨q, hq, he⟩ := dlst_is (prsOf_bn h) (fun e => hl (by have := prsOf_len l ll r; rw [e] at this; exact List.eq_nil_of_length_eq_zero this.symm))
  obtain ⟨k, hk, e⟩ := prs_ky hq
  exact ⟨k, hk, by rw [he, e]; rfl⟩
/-- P76. -/
theorem m_dleastTop {l : List Pn} {ll : List (List Int)} {r : Rc} (h : 0 ≤ dleast l ll r) : dleast l ll r ≤ dleast l ll (rtop ll) := by
  have hg := dleast_in h
  obtain ⟨h1, h2⟩ := gr_parts.1 hg
  rw [dleast_at hg, dleast_at (gr_top hg), prsOf_finer h1 h2 (rtop_ok (rc_parts h2).1) (finer_top h2)]
  have := dlst_map (fk ll (rtop ll)) (prsOf l ll r)
  omega
theorem dok_parts {l : List Pn} {ll : List (List Int)} {r : Rc} {k m : Int} : dok l ll r k m = true ↔ (1 ≤ m ∧ m ≤ 40) ∧ aok l ll r k = true ∧ (l.length = 0 ∨ m ≤ dleast l ll r) := by
  simp only [dok, Bool.and_eq_true, Bool.or_eq_true, decide_eq_true_eq, in3_parts, and_assoc]
theorem aok_gr {l : List Pn} {ll : List (List Int)} {r : Rc} {k : Int} (h : aok l ll r k = true) : grOk l ll r = true := (ad_parts.1 (aok_iff.1 h).1).1
/-- P71. -/
theorem m_diverseOk {l : List Pn} {ll : List (List Int)} {r : Rc} {k m : Int} (h : dok l ll r k m = true) : aok l ll r k = true ∧ (l.length = 0 ∨ m ≤ dleast l ll r) ∧ dok l ll (rtop ll) k m = true := by
  obtain ⟨h1, h2, h3⟩ := dok_parts.1 h
  have hg := aok_gr h2
  obtain ⟨g1, g2⟩ := gr_parts.1 hg
  refine ⟨h2, h3, dok_parts.2 ⟨h1, m_anonCoarser h2 (rtop_ok (rc_parts g2).1) (finer_top g2), ?_⟩⟩
  rcases h3 with h3 | h3
  · exact .inl h3
  · right; have := m_dleastTop (show 0 ≤ dleast l ll r by omega); omega
/-- P72. -/
theorem m_diverseLess {l : List Pn} {ll : List (List Int)} {r : Rc} {k m : Int} (h : dok l ll r k m = true) : 1 ≤ k ∧ k ≤ 40 ∧ 1 ≤ m ∧ m ≤ 40 ∧ ∀ a b, 1 ≤ a → a ≤ k → 1 ≤ b → b ≤ m → dok l ll r a b = true := by
  obtain ⟨h1, h2, h3⟩ := dok_parts.1 h
  obtain ⟨k1, k2, _, k4⟩ := m_anonOk h2
  refine ⟨k1, k2, h1.1, h1.2, fun a b a1 a2 b1 b2 => dok_parts.2 ⟨⟨b1, by omega⟩, k4 a a1 a2, ?_⟩⟩
  rcases h3 with h3 | h3
  · exact .inl h3
  · right; omega
theorem fkr_bd {l : List Pn} {ll : List (List Int)} {r : Rc} (h : grOk l ll r = true) (k : Nat) : fkr l ll r k % 2 = 0 ∧ fkr l ll r k ≤ 2 * l.length * cnk l ll r k ∧ (cnk l ll r k = l.length → fkr l ll r k = 0) := by
  have a := dfar_even (prsOf_bn h) (ky ll r l k)
  have b := dfar_le (prsOf_bn h) (ky ll r l k)
  have e : kn (prsOf l ll r) (ky ll r l k) = cnk l ll r k := by rw [prsOf, kn_prs]; rfl
  rw [prsOf_len, e] at b
  exact ⟨a, b, fun hc => dfar_all (by rw [e, prsOf_len, hc])⟩
/-- P73. -/
theorem m_far {l : List Pn} {ll : List (List Int)} {r : Rc} {k : Int} (h : 0 ≤ dfarI l ll r k) : dfarI l ll r k % 2 = 0 ∧ 1 ≤ gsize l ll r k ∧ gsize l ll r k ≤ l.length ∧ (gsize l ll r k < l.length ∨ dfarI l ll r k = 0) ∧ dfarI l ll r k ≤ 2 * l.length * gsize l ll r k := by
  obtain ⟨hg, j, rfl, hj⟩ := dfarI_in h
  rw [dfarI_at hg hj, gsize_at hg hj]
  obtain ⟨a, b, c⟩ := fkr_bd hg j
  have d := cnk_le l ll r j
  have f := cnk_pos (ll := ll) (r := r) hj
  have e : (2 * (l.length : Int) * (cnk l ll r j : Int)) = ((2 * l.length * cnk l ll r j : Nat) : Int) := by simp
  rw [e]
  refine ⟨by omega, by omega, by omega, ?_, by omega⟩
  by_cases hc : cnk l ll r j = l.length
  · right; rw [c hc]; rfl
  · left; omega
theorem ky_app {l : List Pn} (m : List Pn) (ll : List (List Int)) (r : Rc) {k : Nat} (hk : k < l.length) : ky ll r (l ++ m) k = ky ll r l k := by
  unfold ky; rw [List.getD_eq_getElem?_getD, List.getElem?_append_left hk, List.getD_eq_getElem?_getD]
/-- P74. -/
theorem m_farTwice {l : List Pn} {ll : List (List Int)} {r : Rc} {k : Int} (h : 0 ≤ dfarI l ll r k) (hl : 2 * l.length ≤ 40) : dfarI (l ++ l) ll r k = 4 * dfarI l ll r k := by
  obtain ⟨hg, j, rfl, hj⟩ := dfarI_in h
  have hg2 := gr_app hg (okL_mem (gr_parts.1 hg).1) (show (l ++ l).length ≤ 40 by rw [List.length_append]; omega)
  rw [dfarI_at hg hj, dfarI_at hg2 (by rw [List.length_append]; omega), fkr, fkr, ky_app l ll r hj, prsOf_app, dfar_twice]
  omega
/-- P75. -/
theorem m_dOrder {l m : List Pn} {ll : List (List Int)} {r : Rc} (h : 0 ≤ dleast l ll r) (hp : m.Perm l) : dleast m ll r = dleast l ll r := by
  have hg := dleast_in h
  rw [dleast_at hg, dleast_at (gr_perm hg hp), dlst_perm (prsOf_perm hp ll r) (prsOf_bn hg)]
theorem m_dTwice {l : List Pn} {ll : List (List Int)} {r : Rc} (h : 0 ≤ dleast l ll r) (hl : 2 * l.length ≤ 40) : dleast (l ++ l) ll r = dleast l ll r := by
  have hg := dleast_in h
  have hg2 := gr_app hg (okL_mem (gr_parts.1 hg).1) (show (l ++ l).length ≤ 40 by rw [List.length_append]; omega)
  rw [dleast_at hg, dleast_at hg2, prsOf_app, dlst_twice (prsOf_bn hg)]
/-- P80. -/
theorem m_dJoin {l : List Pn} {ll : List (List Int)} {r : Rc} {k m : Int} (h : dok l ll r k m = true) (hl : 2 * l.length ≤ 40) : dok (l ++ l) ll r k m = true := by
  obtain ⟨h1, h2, h3⟩ := dok_parts.1 h
  refine dok_parts.2 ⟨h1, ((m_anonJoin h2).2 hl).1, ?_⟩
  rcases h3 with h3 | h3
  · left; rw [List.length_append]; omega
  · right; rw [m_dTwice (by omega) hl]; exact h3
/-- P78. -/
theorem m_dSame {l : List Pn} {ll : List (List Int)} {r : Rc} (hg : grOk l ll r = true) {i k : Nat} (hi : i < l.length) (hk : k < l.length) (he : ky ll r l i = ky ll r l k) : dsize l ll r i = dsize l ll r k ∧ dfarI l ll r i = dfarI l ll r k := by
  rw [dsize_at hg hi, dsize_at hg hk, dfarI_at hg hi, dfarI_at hg hk]
  unfold dk fkr; rw [he]; exact ⟨rfl, rfl⟩
/-- P79: one more of the same codes and any pay. -/
theorem m_dAdd {l : List Pn} {ll : List (List Int)} {r : Rc} {k : Nat} (hg : grOk l ll r = true) (hk : k < l.length) (h39 : l.length < 40) {pay : Int} (hp : 0 ≤ pay ∧ pay ≤ 999) :
    dsize (l ++ [⟨l[k].area, l[k].job, l[k].sex, pay⟩]) ll r k = dsize l ll r k ∨ dsize (l ++ [⟨l[k].area, l[k].job, l[k].sex, pay⟩]) ll r k = dsize l ll r k + 1 := by
  have hok := okL_mem (gr_parts.1 hg).1 l[k] (List.getElem_mem hk)
  have hok2 : okP ⟨l[k].area, l[k].job, l[k].sex, pay⟩ = true := by
    have := okP_parts.1 hok
    rw [okP_parts]; simp only; omega
  have hg2 : grOk (l ++ [⟨l[k].area, l[k].job, l[k].sex, pay⟩]) ll r = true := gr_app hg (fun q hq => by rw [List.mem_singleton.1 hq]; exact hok2) (by simp; omega)
  rw [dsize_at hg hk, dsize_at hg2 (by simp; omega), dk, dk, ky_app _ ll r hk, prsOf_app]
  have e : prsOf [⟨l[k].area, l[k].job, l[k].sex, pay⟩] ll r = [(ky ll r l k, pay / 100)] := by
    unfold prsOf prs recL ky
    rw [List.getD_eq_getElem?_getD, List.getElem?_eq_getElem hk]; rfl
  rw [e]
  rcases dsz_snoc (prsOf l ll r) (ky ll r l k) (pay / 100) with h | h
  · left; rw [h]
  · right; rw [h]; simp
end Go.Proofs.Ytaaljmmnfgghfaa
