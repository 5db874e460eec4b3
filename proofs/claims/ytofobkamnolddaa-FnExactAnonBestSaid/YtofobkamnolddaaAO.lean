/- Recodings in the order of their cost: the best one is the first that is allowed. -/
import Derived.Test.YtofobkamnolddaaAM
namespace Go.Proofs.Ytofobkamnolddaa
open Go.RowKit
def oR (c a j : Nat) : Rc := ⟨a, j, (c : Int) - a - j⟩
def oJ (c a j : Nat) : List Rc := (List.range j).map (oR c a)
def oA (c a : Nat) : List Rc := (List.range a).flatMap fun a => oJ c a 2
def oC (n c : Nat) : List Rc := (List.range c).flatMap fun c => oA c (n + 1)
def ordAll (n : Nat) : List Rc := oC n (n + 3)
def ordC (ll : List (List Int)) : List Rc := (ordAll ll.length).filter (rcOk ll)
theorem oJ_succ (c a j : Nat) : oJ c a (j + 1) = oJ c a j ++ [oR c a j] := by unfold oJ; rw [List.range_succ, List.map_append]; rfl
theorem oA_succ (c a : Nat) : oA c (a + 1) = oA c a ++ oJ c a 2 := by unfold oA; rw [List.range_succ, List.flatMap_append]; simp
theorem oC_succ (n c : Nat) : oC n (c + 1) = oC n c ++ oA c (n + 1) := by unfold oC; rw [List.range_succ, List.flatMap_append]; simp
/-- What has come at a place of the three loops. -/
def oP (ll : List (List Int)) (c a j : Nat) : List Rc := (oC ll.length c ++ oA c a ++ oJ c a j).filter (rcOk ll)
theorem oP_zero (ll : List (List Int)) : oP ll 0 0 0 = [] := rfl
theorem oP_step (ll : List (List Int)) (c a j : Nat) : oP ll c a (j + 1) = oP ll c a j ++ if rcOk ll (oR c a j) = true then [oR c a j] else [] := by
  unfold oP
  rw [oJ_succ, ← List.append_assoc, List.filter_append]
  congr 1
  by_cases h : rcOk ll (oR c a j) = true <;> simp [h]
theorem oP_area (ll : List (List Int)) (c a : Nat) : oP ll c (a + 1) 0 = oP ll c a 2 := by
  unfold oP
  rw [oA_succ, show oJ c (a + 1) 0 = [] from rfl, List.append_nil, List.append_assoc]
theorem oP_cost (ll : List (List Int)) (c : Nat) : oP ll (c + 1) 0 0 = oP ll c (ll.length + 1) 0 := by
  unfold oP
  rw [oC_succ, show oA (c + 1) 0 = [] from rfl, show oJ (c + 1) 0 0 = [] from rfl, show oJ c (ll.length + 1) 0 = [] from rfl]
  simp
theorem oP_all (ll : List (List Int)) : oP ll (ll.length + 3) 0 0 = ordC ll := by
  unfold oP ordC ordAll
  rw [show oA (ll.length + 3) 0 = [] from rfl, show oJ (ll.length + 3) 0 0 = [] from rfl]
  simp
theorem oA_pre (c : Nat) {a b : Nat} (h : a ≤ b) : oA c a <+: oA c b := by
  obtain ⟨d, rfl⟩ := Nat.le.dest h
  induction d with
  | zero => exact List.prefix_rfl
  | succ d ih => exact (ih (by omega)).trans (by rw [← Nat.add_assoc, oA_succ]; exact List.prefix_append _ _)
theorem oC_pre (n : Nat) {a b : Nat} (h : a ≤ b) : oC n a <+: oC n b := by
  obtain ⟨d, rfl⟩ := Nat.le.dest h
  induction d with
  | zero => exact List.prefix_rfl
  | succ d ih => exact (ih (by omega)).trans (by rw [← Nat.add_assoc, oC_succ]; exact List.prefix_append _ _)
theorem oJ_pre (c a : Nat) {i j : Nat} (h : i ≤ j) : oJ c a i <+: oJ c a j := by
  obtain ⟨d, rfl⟩ := Nat.le.dest h
  induction d with
  | zero => exact List.prefix_rfl
  | succ d ih => exact (ih (by omega)).trans (by rw [← Nat.add_assoc, oJ_succ]; exact List.prefix_append _ _)
theorem oP_pre (ll : List (List Int)) {c a j : Nat} (hc : c < ll.length + 3) (ha : a < ll.length + 1) (hj : j ≤ 2) : oP ll c a j <+: ordC ll := by
  unfold oP ordC ordAll
  refine List.IsPrefix.filter _ ?_
  have h1 : oA c a ++ oJ c a j <+: oA c (ll.length + 1) := by
    refine List.IsPrefix.trans ?_ (oA_pre c (show a + 1 ≤ ll.length + 1 by omega))
    rw [oA_succ]
    exact (List.prefix_append_right_inj _).2 (oJ_pre c a hj)
  refine List.IsPrefix.trans ?_ (oC_pre ll.length (show c + 1 ≤ ll.length + 3 by omega))
  rw [oC_succ, List.append_assoc]
  exact (List.prefix_append_right_inj _).2 h1
def rcost (r : Rc) : Int := r.area + r.job + r.sex
def okey (r : Rc) : Int := rcost r * 100 + r.area * 10 + r.job
def rkey (r : Rc) : Int := r.area * 4 + r.job * 2 + r.sex
theorem ordAll_sorted (n : Nat) (h : n ≤ 3) : (ordAll n).Pairwise fun r s => okey r < okey s := by
  rcases (show n = 0 ∨ n = 1 ∨ n = 2 ∨ n = 3 by omega) with rfl | rfl | rfl | rfl <;> decide +kernel
theorem rcsTo_sorted (n : Nat) (h : n ≤ 4) : (rcsTo n).Pairwise fun r s => rkey r < rkey s := by
  rcases (show n = 0 ∨ n = 1 ∨ n = 2 ∨ n = 3 ∨ n = 4 by omega) with rfl | rfl | rfl | rfl | rfl <;> decide +kernel
theorem ordC_mem {ll : List (List Int)} {r : Rc} : r ∈ ordC ll ↔ rcOk ll r = true := by
  unfold ordC ordAll
  rw [List.mem_filter]
  refine ⟨fun h => h.2, fun h => ⟨?_, h⟩⟩
  obtain ⟨_, a0, a1, j0, j1, s0, s1⟩ := rc_parts h
  obtain ⟨ra, rj, rs⟩ := r
  simp only at a0 a1 j0 j1 s0 s1
  unfold oC oA oJ
  simp only [List.mem_flatMap, List.mem_map, List.mem_range]
  refine ⟨(ra + rj + rs).toNat, by omega, ra.toNat, by omega, rj.toNat, by omega, ?_⟩
  unfold oR
  congr 1 <;> omega
theorem ordC_sorted {ll : List (List Int)} (h : ladOk ll = true) : (ordC ll).Pairwise fun r s => okey r < okey s := (ordAll_sorted _ (lad_len h)).filter _
theorem find_least {p : Rc → Bool} {r : Rc} : ∀ {L : List Rc}, (L.Pairwise fun r s => okey r < okey s) → L.find? p = some r → ∀ s ∈ L, p s = true → okey r ≤ okey s
  | [], _, h => by simp at h
  | x :: L, hp, h => by
    obtain ⟨h1, h2⟩ := List.pairwise_cons.1 hp
    intro s hs hps
    rw [List.find?_cons] at h
    cases hx : p x
    · rw [hx] at h
      rcases List.mem_cons.1 hs with rfl | hs
      · rw [hx] at hps; cases hps
      · exact find_least h2 h s hs hps
    · rw [hx] at h
      injection h with h
      subst h
      rcases List.mem_cons.1 hs with rfl | hs
      · exact Int.le_refl _
      · exact Int.le_of_lt (h1 s hs)
section
variable (l : List Pn) (ll : List (List Int)) (k drop : Int)
/-- What the fold finds is the first of those of least cost. -/
theorem bfold_first (hv : ∀ r, rcOk ll r = true → acost ll r = rcost r) : ∀ (y z : List Rc), (∀ r ∈ z ++ y, rcOk ll r = true) → ((z ++ y).Pairwise fun r s => rkey r < rkey s) →
    (∀ b, bfold l ll k drop z = some b → b ∈ z ∧ ∀ r ∈ z, adrop l ll r k ≤ drop → rcost b < rcost r ∨ (rcost b = rcost r ∧ rkey b ≤ rkey r)) →
    (bfold l ll k drop z = none → ∀ r ∈ z, ¬ adrop l ll r k ≤ drop) →
    ∀ b, bfold l ll k drop (z ++ y) = some b → b ∈ z ++ y ∧ ∀ r ∈ z ++ y, adrop l ll r k ≤ drop → rcost b < rcost r ∨ (rcost b = rcost r ∧ rkey b ≤ rkey r)
  | [], z, _, _, h1, _ => by simpa using h1
  | r :: y, z, hok, hp, h1, h2 => by
    have e : z ++ r :: y = (z ++ [r]) ++ y := by simp
    rw [e] at hok hp ⊢
    have hlt : ∀ s ∈ z, rkey s < rkey r := fun s hs => by
      rw [List.append_assoc, List.pairwise_append] at hp
      exact hp.2.2 s hs r (by simp)
    have hr : acost ll r = rcost r := hv r (hok r (by simp))
    refine bfold_first hv y (z ++ [r]) hok hp ?_ ?_
    · rw [bfold_snoc]
      intro b hb
      cases hq : bfold l ll k drop z with
      | none =>
        rw [hq] at hb
        by_cases hd : adrop l ll r k ≤ drop
        · have e2 : bstep l ll k drop none r = some r := by simp [bstep, betterB, hd]
          rw [e2] at hb
          injection hb with hb; subst hb
          refine ⟨by simp, fun s hs hs2 => ?_⟩
          rcases List.mem_append.1 hs with hs | hs
          · exact absurd hs2 (h2 hq s hs)
          · rw [List.mem_singleton.1 hs]; exact .inr ⟨rfl, Int.le_refl _⟩
        · have e2 : bstep l ll k drop none r = none := by simp [bstep, betterB, hd]
          rw [e2] at hb; cases hb
      | some q =>
        obtain ⟨g1, g2⟩ := h1 q hq
        have hcq : acost ll q = rcost q := hv q (hok q (by simp [g1]))
        rw [hq] at hb
        by_cases hd : adrop l ll r k ≤ drop ∧ acost ll r < acost ll q
        · have e2 : bstep l ll k drop (some q) r = some r := by simp [bstep, betterB, hd.1, hd.2]
          rw [e2] at hb
          injection hb with hb; subst hb
          refine ⟨by simp, fun s hs hs2 => ?_⟩
          rcases List.mem_append.1 hs with hs | hs
          · have := g2 s hs hs2; omega
          · rw [List.mem_singleton.1 hs]; exact .inr ⟨rfl, Int.le_refl _⟩
        · have e2 : bstep l ll k drop (some q) r = some q := by
            rw [bstep, if_neg]
            simp only [betterB, Bool.and_eq_true, decide_eq_true_eq]; exact hd
          rw [e2] at hb
          injection hb with hb; subst hb
          refine ⟨by simp [g1], fun s hs hs2 => ?_⟩
          rcases List.mem_append.1 hs with hs | hs
          · exact g2 s hs hs2
          · rw [List.mem_singleton.1 hs] at hs2 ⊢
            have := hlt q g1
            have : ¬ acost ll r < acost ll q := fun h => hd ⟨hs2, h⟩
            omega
    · intro hn s hs
      rw [bfold_snoc] at hn
      cases hq : bfold l ll k drop z with
      | none =>
        rw [hq] at hn
        by_cases hd : adrop l ll r k ≤ drop
        · have e2 : bstep l ll k drop none r = some r := by simp [bstep, betterB, hd]
          rw [e2] at hn; cases hn
        · rcases List.mem_append.1 hs with hs | hs
          · exact h2 hq s hs
          · rw [List.mem_singleton.1 hs]; exact hd
      | some q =>
        rw [hq] at hn
        unfold bstep at hn
        split at hn <;> cases hn
/-- The best recoding is the first in the order of cost. -/
theorem abest_find (h : abOk l ll k = true) : abest l ll k drop = (ordC ll).find? fun r => decide (adrop l ll r k ≤ drop) := by
  obtain ⟨h1, h2, h3, h4⟩ := ab_parts.1 h
  have hl3 := lad_len h2
  have e : abest l ll k drop = bfold l ll k drop (rcs ll) := by rw [abest, if_pos h]
  have hN := (bfold_is l ll k drop (rcs ll)).2
  have hS := (bfold_is l ll k drop (rcs ll)).1
  cases hf : (ordC ll).find? (fun r => decide (adrop l ll r k ≤ drop)) with
  | none =>
    rw [e]
    cases hb : bfold l ll k drop (rcs ll) with
    | none => rfl
    | some b =>
      obtain ⟨g1, g2, _⟩ := hS b hb
      have := List.find?_eq_none.1 hf b (ordC_mem.2 ((rcs_mem h2).1 g1))
      simp only [decide_eq_true_eq] at this
      exact absurd g2 this
  | some r =>
    have hp := List.find?_some hf
    simp only [decide_eq_true_eq] at hp
    have hr := ordC_mem.1 (List.mem_of_find?_eq_some hf)
    have hl := find_least (ordC_sorted h2) hf
    rw [e]
    cases hb : bfold l ll k drop (rcs ll) with
    | none => exact absurd hp (hN hb r ((rcs_mem h2).2 hr))
    | some b =>
      obtain ⟨g1, g2, _⟩ := hS b hb
      have hbk := (rcs_mem h2).1 g1
      have k1 := hl b (ordC_mem.2 hbk) (by simpa using g2)
      have k2 := (bfold_first l ll k drop (fun r hr => acost_at hr) (rcs ll) [] (fun r hr => (rcs_mem h2).1 (by simpa using hr)) (by simpa [rcs] using rcsTo_sorted _ (by omega)) (fun b hb => by simp [bfold] at hb) (fun _ r hr => by cases hr) b (by simpa using hb)).2 r (by simpa using (rcs_mem h2).2 hr) hp
      obtain ⟨_, a0, a1, j0, j1, s0, s1⟩ := rc_parts hr
      obtain ⟨_, b0, b1, c0, c1, d0, d1⟩ := rc_parts hbk
      obtain ⟨ra, rj, rs⟩ := r
      obtain ⟨ba, bj, bs⟩ := b
      simp only [okey, rkey, rcost] at k1 k2 a0 a1 j0 j1 s0 s1 b0 b1 c0 c1 d0 d1
      have e1 : ba = ra := by omega
      have e2 : bj = rj := by omega
      have e3 : bs = rs := by omega
      subst e1 e2 e3; rfl
end
end Go.Proofs.Ytofobkamnolddaa
