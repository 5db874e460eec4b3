/- The mathematics of chapter 3's laws. -/
import Derived.Test.YtbbgakbobefplaaG2
namespace Go.Proofs.Ytbbgakbobefplaa
def pChain (ll : List (List Int)) (l x : Int) : Bool :=
  decide (0 ≤ codeAt ll l x) && decide (codeAt ll l x ≤ x) && (nats (ll.length + 1)).all fun k => decide (k < l) || decide (codeAt ll k (codeAt ll l x) = codeAt ll k x)
theorem pChain_all : (lads.all fun ll => (nats (ll.length + 1)).all fun l => (nats 4).all fun c => pChain ll l c) = true := by decide +kernel
theorem chain {ll : List (List Int)} (h : ladOk ll = true) {l x : Int} (l0 : 0 ≤ l) (l1 : l ≤ ll.length) (x0 : 0 ≤ x) (x1 : x ≤ 3) :
    0 ≤ codeAt ll l x ∧ codeAt ll l x ≤ x ∧ ∀ k, l ≤ k → k ≤ ll.length → codeAt ll k (codeAt ll l x) = codeAt ll k x := by
  have p := by_all pChain pChain_all h l0 l1 x0 x1
  simp only [pChain, Bool.and_eq_true, decide_eq_true_eq] at p
  obtain ⟨⟨p1, p2⟩, p3⟩ := p
  refine ⟨p1, p2, fun k h1 h2 => ?_⟩
  have q := List.all_eq_true.1 p3 k (nats_mem (by omega) (by omega))
  simp only [Bool.or_eq_true, decide_eq_true_eq] at q
  rcases q with q | q
  · omega
  · exact q
theorem rc_parts {ll : List (List Int)} {r : Rc} (h : rcOk ll r = true) : ladOk ll = true ∧ 0 ≤ r.area ∧ r.area ≤ ll.length ∧ 0 ≤ r.job ∧ r.job ≤ 1 ∧ 0 ≤ r.sex ∧ r.sex ≤ 1 := by
  simp only [rcOk, in3, Bool.and_eq_true, decide_eq_true_eq] at h
  obtain ⟨⟨⟨h0, a⟩, b⟩, c⟩ := h
  exact ⟨h0, a.1, a.2, b.1, b.2, c.1, c.2⟩
theorem rc_mk {ll : List (List Int)} {r : Rc} (h : ladOk ll = true) (a0 : 0 ≤ r.area) (a1 : r.area ≤ ll.length) (j0 : 0 ≤ r.job) (j1 : r.job ≤ 1) (s0 : 0 ≤ r.sex) (s1 : r.sex ≤ 1) : rcOk ll r = true := by
  simp only [rcOk, in3, Bool.and_eq_true, decide_eq_true_eq]
  exact ⟨⟨⟨h, a0, a1⟩, j0, j1⟩, s0, s1⟩
def rlow : Rc := ⟨0, 0, 0⟩
def rtop (ll : List (List Int)) : Rc := ⟨ll.length, 1, 1⟩
theorem rlow_ok {ll : List (List Int)} (h : ladOk ll = true) : rcOk ll rlow = true := rc_mk h (by simp [rlow]) (by simp [rlow]) (by simp [rlow]) (by simp [rlow]) (by simp [rlow]) (by simp [rlow])
theorem rtop_ok {ll : List (List Int)} (h : ladOk ll = true) : rcOk ll (rtop ll) = true := rc_mk h (by simp [rtop]) (by simp [rtop]) (by simp [rtop]) (by simp [rtop]) (by simp [rtop]) (by simp [rtop])
theorem okP_parts {p : Pn} : okP p = true ↔ 0 ≤ p.area ∧ p.area ≤ 3 ∧ 0 ≤ p.job ∧ p.job ≤ 3 ∧ 0 ≤ p.sex ∧ p.sex ≤ 1 ∧ 0 ≤ p.pay ∧ p.pay ≤ 999 := by
  simp only [okP, inC, Bool.and_eq_true, decide_eq_true_eq]; omega
/-- A recoded person. -/
theorem rec1_ok {ll : List (List Int)} {r : Rc} (h : rcOk ll r = true) {p : Pn} (hp : okP p = true) : okP (rec1 ll r p) = true ∧ (rec1 ll r p).area ≤ p.area ∧ (rec1 ll r p).job ≤ p.job ∧ (rec1 ll r p).sex ≤ p.sex := by
  obtain ⟨h0, a0, a1, _, _, _, _⟩ := rc_parts h
  rw [okP_parts] at hp ⊢
  obtain ⟨c0, c1, _⟩ := chain h0 a0 a1 hp.1 hp.2.1
  simp only [rec1]
  have hj : (if r.job = 1 then (0 : Int) else p.job) = 0 ∨ (if r.job = 1 then (0 : Int) else p.job) = p.job := by split <;> simp
  have hs : (if r.sex = 1 then (0 : Int) else p.sex) = 0 ∨ (if r.sex = 1 then (0 : Int) else p.sex) = p.sex := by split <;> simp
  omega
def finer (r s : Rc) : Prop := r.area ≤ s.area ∧ r.job ≤ s.job ∧ r.sex ≤ s.sex
theorem rec1_chain {ll : List (List Int)} {r s : Rc} (hr : rcOk ll r = true) (hs : rcOk ll s = true) (hf : finer r s) {p : Pn} (hp : okP p = true) : rec1 ll s (rec1 ll r p) = rec1 ll s p := by
  obtain ⟨h0, a0, a1, j0, j1, x0, x1⟩ := rc_parts hr
  obtain ⟨_, _, b1, _, k1, _, y1⟩ := rc_parts hs
  obtain ⟨f1, f2, f3⟩ := hf
  rw [okP_parts] at hp
  obtain ⟨_, _, c2⟩ := chain h0 a0 a1 hp.1 hp.2.1
  simp only [rec1, c2 _ f1 b1, Pn.mk.injEq, and_true, true_and]
  refine ⟨?_, ?_⟩
  · by_cases h : s.job = 1
    · simp [h]
    · rw [if_neg h, if_neg h, if_neg (by omega)]
  · by_cases h : s.sex = 1
    · simp [h]
    · rw [if_neg h, if_neg h, if_neg (by omega)]
theorem rec1_low (ll : List (List Int)) (p : Pn) : rec1 ll rlow p = p := by
  obtain ⟨a, b, c, d⟩ := p
  simp [rec1, rlow, codeAt]
theorem recL_low (ll : List (List Int)) (l : List Pn) : recL ll rlow l = l := by
  unfold recL; rw [List.map_congr_left (g := id) fun p _ => rec1_low ll p, List.map_id]
theorem gr_parts {l : List Pn} {ll : List (List Int)} {r : Rc} : grOk l ll r = true ↔ okL l = true ∧ rcOk ll r = true := by simp [grOk]
theorem okL_mem {l : List Pn} (h : okL l = true) : ∀ p ∈ l, okP p = true := fun p hp => List.all_eq_true.1 (okL_all h).2 p hp
theorem okL_mk {l : List Pn} (h1 : l.length ≤ 40) (h2 : ∀ p ∈ l, okP p = true) : okL l = true := by
  simp only [okL, Bool.and_eq_true, decide_eq_true_eq, List.all_eq_true]; exact ⟨h1, h2⟩
theorem recL_ok {l : List Pn} {ll : List (List Int)} {r : Rc} (h : grOk l ll r = true) : okL (recL ll r l) = true := by
  obtain ⟨h1, h2⟩ := gr_parts.1 h
  refine okL_mk (by rw [recL_len]; exact (okL_all h1).1) fun p hp => ?_
  obtain ⟨q, hq, rfl⟩ := List.mem_map.1 hp
  exact (rec1_ok h2 (okL_mem h1 q hq)).1
theorem recL_chain {l : List Pn} {ll : List (List Int)} {r s : Rc} (hl : okL l = true) (hr : rcOk ll r = true) (hs : rcOk ll s = true) (hf : finer r s) : recL ll s (recL ll r l) = recL ll s l := by
  unfold recL; rw [List.map_map]
  exact List.map_congr_left fun p hp => rec1_chain hr hs hf (okL_mem hl p hp)
/-- Keys recoded. -/
def fk (ll : List (List Int)) (r : Rc) (q : Int × Int × Int) : Int × Int × Int := (codeAt ll r.area q.1, if r.job = 1 then 0 else q.2.1, if r.sex = 1 then 0 else q.2.2)
theorem keys_rec (ll : List (List Int)) (r : Rc) (l : List Pn) : keys (recL ll r l) = (keys l).map (fk ll r) := by
  unfold keys recL; rw [List.map_map, List.map_map]; rfl
theorem keys_finer {l : List Pn} {ll : List (List Int)} {r s : Rc} (hl : okL l = true) (hr : rcOk ll r = true) (hs : rcOk ll s = true) (hf : finer r s) : keysOf l ll s = (keysOf l ll r).map (fk ll s) := by
  unfold keysOf; rw [← keys_rec, recL_chain hl hr hs hf]
theorem keysOf_len (l : List Pn) (ll : List (List Int)) (r : Rc) : (keysOf l ll r).length = l.length := by simp [keysOf, keys, recL]
theorem keysOf_app (l m : List Pn) (ll : List (List Int)) (r : Rc) : keysOf (l ++ m) ll r = keysOf l ll r ++ keysOf m ll r := by simp [keysOf, keys, recL]
theorem keysOf_perm {l m : List Pn} (h : l.Perm m) (ll : List (List Int)) (r : Rc) : (keysOf l ll r).Perm (keysOf m ll r) := (h.map _).map _
/-- The key of one person. -/
def ky (ll : List (List Int)) (r : Rc) (l : List Pn) (k : Nat) : Int × Int × Int := key (rec1 ll r (l.getD k p00))
theorem getD_rec (ll : List (List Int)) (r : Rc) (l : List Pn) (k : Nat) (hk : k < l.length) : (recL ll r l).getD k p00 = rec1 ll r (l.getD k p00) := by
  rw [List.getD_eq_getElem?_getD, List.getD_eq_getElem?_getD, recL, List.getElem?_map, List.getElem?_eq_getElem hk]; rfl
theorem ky_mem (ll : List (List Int)) (r : Rc) (l : List Pn) (k : Nat) (hk : k < l.length) : ky ll r l k ∈ keysOf l ll r := by
  unfold ky keysOf keys recL
  rw [List.map_map, List.mem_map]
  refine ⟨l.getD k p00, ?_, rfl⟩
  rw [List.getD_eq_getElem?_getD, List.getElem?_eq_getElem hk]; exact List.getElem_mem hk
theorem mem_ky {ll : List (List Int)} {r : Rc} {l : List Pn} {a : Int × Int × Int} (h : a ∈ keysOf l ll r) : ∃ k, k < l.length ∧ ky ll r l k = a := by
  unfold keysOf keys recL at h
  rw [List.map_map, List.mem_map] at h
  obtain ⟨p, hp, rfl⟩ := h
  obtain ⟨k, hk, rfl⟩ := List.getElem_of_mem hp
  refine ⟨k, hk, ?_⟩
  unfold ky; rw [List.getD_eq_getElem?_getD, List.getElem?_eq_getElem hk]; rfl
/-- How large the group of the k-th is. -/
def cnk (l : List Pn) (ll : List (List Int)) (r : Rc) (k : Nat) : Nat := cn (keysOf l ll r) (ky ll r l k)
theorem gsize_at {l : List Pn} {ll : List (List Int)} {r : Rc} (h : grOk l ll r = true) {k : Nat} (hk : k < l.length) : gsize l ll r k = cnk l ll r k := by
  have h2 : (grOk l ll r && in3 (k : Int) 0 (l.length - 1)) = true := by simp [h, in3]; omega
  rw [gsize, if_pos h2]
  have e : ((k : Int).toNat) = k := by omega
  rw [e, sizeAt, getD_rec ll r l k hk]; rfl
theorem gsize_in {l : List Pn} {ll : List (List Int)} {r : Rc} {k : Int} (h : 0 ≤ gsize l ll r k) : grOk l ll r = true ∧ ∃ j : Nat, k = j ∧ j < l.length := by
  unfold gsize at h
  split at h
  · rename_i hc
    simp only [Bool.and_eq_true, in3, decide_eq_true_eq] at hc
    exact ⟨hc.1, k.toNat, by omega, by omega⟩
  · omega
theorem gsize_no {l : List Pn} {ll : List (List Int)} {r : Rc} {k : Int} (h : gsize l ll r k < 0) : gsize l ll r k = -1 := by
  unfold gsize at *; split <;> rename_i hc
  · rw [if_pos hc] at h; omega
  · rfl
theorem gleast_in {l : List Pn} {ll : List (List Int)} {r : Rc} (h : 0 ≤ gleast l ll r) : grOk l ll r = true := by
  unfold gleast at h; split at h
  · assumption
  · omega
theorem gmany_in {l : List Pn} {ll : List (List Int)} {r : Rc} (h : 0 ≤ gmany l ll r) : grOk l ll r = true := by
  unfold gmany at h; split at h
  · assumption
  · omega
theorem guniq_in {l : List Pn} {ll : List (List Int)} {r : Rc} (h : 0 ≤ guniq l ll r) : grOk l ll r = true := by
  unfold guniq at h; split at h
  · assumption
  · omega
theorem gleast_no {l : List Pn} {ll : List (List Int)} {r : Rc} (h : gleast l ll r < 0) : gleast l ll r = -1 := by
  unfold gleast at *; split <;> rename_i hc
  · rw [if_pos hc] at h; omega
  · rfl
theorem gmany_no {l : List Pn} {ll : List (List Int)} {r : Rc} (h : gmany l ll r < 0) : gmany l ll r = -1 := by
  unfold gmany at *; split <;> rename_i hc
  · rw [if_pos hc] at h; omega
  · rfl
theorem guniq_no {l : List Pn} {ll : List (List Int)} {r : Rc} (h : guniq l ll r < 0) : guniq l ll r = -1 := by
  unfold guniq at *; split <;> rename_i hc
  · rw [if_pos hc] at h; omega
  · rfl
theorem gleast_at {l : List Pn} {ll : List (List Int)} {r : Rc} (h : grOk l ll r = true) : gleast l ll r = least1 (keysOf l ll r) := by rw [gleast, if_pos h]
theorem gmany_at {l : List Pn} {ll : List (List Int)} {r : Rc} (h : grOk l ll r = true) : gmany l ll r = many1 (keysOf l ll r) := by rw [gmany, if_pos h]
theorem guniq_at {l : List Pn} {ll : List (List Int)} {r : Rc} (h : grOk l ll r = true) : guniq l ll r = uniq1 (keysOf l ll r) := by rw [guniq, if_pos h]
theorem gr_low {l : List Pn} {ll : List (List Int)} {r : Rc} (h : grOk l ll r = true) : grOk l ll rlow = true := by
  obtain ⟨h1, h2⟩ := gr_parts.1 h; exact gr_parts.2 ⟨h1, rlow_ok (rc_parts h2).1⟩
theorem gr_top {l : List Pn} {ll : List (List Int)} {r : Rc} (h : grOk l ll r = true) : grOk l ll (rtop ll) = true := by
  obtain ⟨h1, h2⟩ := gr_parts.1 h; exact gr_parts.2 ⟨h1, rtop_ok (rc_parts h2).1⟩
theorem finer_top {ll : List (List Int)} {r : Rc} (h : rcOk ll r = true) : finer r (rtop ll) := by
  obtain ⟨_, _, a1, _, j1, _, s1⟩ := rc_parts h; exact ⟨a1, j1, s1⟩
theorem low_finer {ll : List (List Int)} {r : Rc} (h : rcOk ll r = true) : finer rlow r := by
  obtain ⟨_, a0, _, j0, _, s0, _⟩ := rc_parts h; exact ⟨a0, j0, s0⟩
theorem cnk_finer {l : List Pn} {ll : List (List Int)} {r s : Rc} (h : grOk l ll r = true) (hs : rcOk ll s = true) (hf : finer r s) {k : Nat} (hk : k < l.length) : cnk l ll r k ≤ cnk l ll s k := by
  obtain ⟨h1, h2⟩ := gr_parts.1 h
  unfold cnk
  rw [keys_finer h1 h2 hs hf]
  have e : ky ll s l k = fk ll s (ky ll r l k) := by
    unfold ky
    have hp : okP (l.getD k p00) = true := by
      rw [List.getD_eq_getElem?_getD, List.getElem?_eq_getElem hk]; exact okL_mem h1 _ (List.getElem_mem hk)
    rw [← rec1_chain h2 hs hf hp]; rfl
  rw [e]; exact cn_map _ _ _
theorem cnk_pos {l : List Pn} {ll : List (List Int)} {r : Rc} {k : Nat} (hk : k < l.length) : 1 ≤ cnk l ll r k := cn_pos.2 (ky_mem ll r l k hk)
theorem cnk_le (l : List Pn) (ll : List (List Int)) (r : Rc) (k : Nat) : cnk l ll r k ≤ l.length := by
  have := cn_le (keysOf l ll r) (ky ll r l k); rw [keysOf_len] at this; exact this
/-- P35. -/
theorem m_sizeFiner {l : List Pn} {ll : List (List Int)} {r : Rc} {k : Int} (h : 0 ≤ gsize l ll r k) :
    ∃ t b, gsize l ll (rtop ll) k = t ∧ gsize l ll rlow k = b ∧ b ≤ gsize l ll r k ∧ gsize l ll r k ≤ t ∧ 1 ≤ b := by
  obtain ⟨hg, j, rfl, hj⟩ := gsize_in h
  obtain ⟨h1, h2⟩ := gr_parts.1 hg
  refine ⟨_, _, rfl, rfl, ?_⟩
  rw [gsize_at hg hj, gsize_at (gr_top hg) hj, gsize_at (gr_low hg) hj]
  have a := cnk_finer hg (rtop_ok (rc_parts h2).1) (finer_top h2) hj
  have b := cnk_finer (gr_low hg) h2 (low_finer h2) hj
  have c := cnk_pos (ll := ll) (r := rlow) hj
  omega
theorem least_le {l : List Pn} {ll : List (List Int)} {r : Rc} {k : Nat} (hk : k < l.length) : least1 (keysOf l ll r) ≤ cnk l ll r k := least1_le _ (ky_mem ll r l k hk)
theorem least_is {l : List Pn} {ll : List (List Int)} {r : Rc} (h : l ≠ []) : ∃ k, k < l.length ∧ cnk l ll r k = least1 (keysOf l ll r) := by
  obtain ⟨a, ha, he⟩ := least1_is (keysOf l ll r) (fun e => h (by have := keysOf_len l ll r; rw [e] at this; exact List.eq_nil_of_length_eq_zero this.symm))
  obtain ⟨k, hk, rfl⟩ := mem_ky ha
  exact ⟨k, hk, he.symm⟩
theorem least_top {l : List Pn} {ll : List (List Int)} {r : Rc} (h : grOk l ll r = true) : least1 (keysOf l ll r) ≤ least1 (keysOf l ll (rtop ll)) := by
  obtain ⟨h1, h2⟩ := gr_parts.1 h
  rw [keys_finer h1 h2 (rtop_ok (rc_parts h2).1) (finer_top h2)]; exact least_map _ _
theorem many_top {l : List Pn} {ll : List (List Int)} {r : Rc} (h : grOk l ll r = true) : many1 (keysOf l ll (rtop ll)) ≤ many1 (keysOf l ll r) := by
  obtain ⟨h1, h2⟩ := gr_parts.1 h
  rw [keys_finer h1 h2 (rtop_ok (rc_parts h2).1) (finer_top h2)]; exact many_map _ _
theorem gr_app {l m : List Pn} {ll : List (List Int)} {r : Rc} (h : grOk l ll r = true) (hm : ∀ p ∈ m, okP p = true) (hlen : (l ++ m).length ≤ 40) : grOk (l ++ m) ll r = true := by
  obtain ⟨h1, h2⟩ := gr_parts.1 h
  refine gr_parts.2 ⟨okL_mk hlen fun p hp => ?_, h2⟩
  rcases List.mem_append.1 hp with hp | hp
  · exact okL_mem h1 p hp
  · exact hm p hp
theorem gr_perm {l m : List Pn} {ll : List (List Int)} {r : Rc} (h : grOk l ll r = true) (hp : m.Perm l) : grOk m ll r = true := by
  obtain ⟨h1, h2⟩ := gr_parts.1 h
  exact gr_parts.2 ⟨okL_mk (by rw [hp.length_eq]; exact (okL_all h1).1) fun p hq => okL_mem h1 p (hp.mem_iff.1 hq), h2⟩
end Go.Proofs.Ytbbgakbobefplaa
