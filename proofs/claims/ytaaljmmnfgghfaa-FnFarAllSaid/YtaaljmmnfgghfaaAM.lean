/- Anonymity: what it is. Anonymity: what the laws ask of it. -/
import Derived.Test.YtaaljmmnfgghfaaA2
import Derived.Test.YtaaljmmnfgghfaaA5
namespace Go.Proofs.Ytaaljmmnfgghfaa
open Go.RowKit
section
variable {α : Type} [DecidableEq α]
def big (x : List α) (k : Int) (a : α) : Bool := decide (k ≤ (cn x a : Int))
def dropN (x : List α) (k : Int) : Nat := (x.filter fun a => !big x k a).length
def keepN (x : List α) (k : Int) : List α := x.filter (big x k)
theorem len_mono {β : Type} {p q : β → Bool} : ∀ (l : List β), (∀ a ∈ l, p a = true → q a = true) → (l.filter p).length ≤ (l.filter q).length
  | [], _ => Nat.le_refl _
  | a :: r, h => by
    have i := len_mono r fun b hb => h b (List.mem_cons_of_mem _ hb)
    have e := h a (by simp)
    cases hp : p a
    · cases hq : q a <;> simp [hp, hq] <;> omega
    · simp [hp, e hp]; exact i
theorem drop_keep (x : List α) (k : Int) : (keepN x k).length + dropN x k = x.length := by
  unfold keepN dropN
  induction x with
  | nil => rfl
  | cons a l ih =>
    have key : ∀ (p : α → Bool) (l : List α), (l.filter p).length + (l.filter fun a => !p a).length = l.length := fun p l => by
      induction l with
      | nil => rfl
      | cons b m ih2 => cases h : p b <;> simp [h] <;> omega
    exact key _ _
theorem drop_le (x : List α) (k : Int) : dropN x k ≤ x.length := List.length_filter_le _ _
theorem drop_mono (x : List α) {k k' : Int} (h : k ≤ k') : dropN x k ≤ dropN x k' := len_mono x fun a _ ha => by
  simp only [big, Bool.not_eq_true', decide_eq_false_iff_not] at ha ⊢; omega
theorem drop_zero {x : List α} {k : Int} : dropN x k = 0 ↔ ∀ a ∈ x, k ≤ (cn x a : Int) := by
  unfold dropN
  rw [List.length_eq_zero_iff, List.filter_eq_nil_iff]
  simp only [big, Bool.not_eq_true', decide_eq_false_iff_not, Classical.not_not]
theorem drop_one (x : List α) : dropN x 1 = 0 := drop_zero.2 fun a ha => by have := cn_pos.2 ha; omega
theorem drop_map {β : Type} [DecidableEq β] (f : α → β) (x : List α) (k : Int) : dropN (x.map f) k ≤ dropN x k := by
  unfold dropN
  rw [List.filter_map, List.length_map]
  refine len_mono x fun a _ ha => ?_
  have := cn_map f x a
  simp only [Function.comp, big, Bool.not_eq_true', decide_eq_false_iff_not] at ha ⊢; omega
theorem drop_perm {x y : List α} (h : x.Perm y) (k : Int) : dropN x k = dropN y k := by
  unfold dropN
  have e : (fun a => !big x k a) = fun a => !big y k a := by funext a; rw [big, big, cn_perm h]
  rw [e]; exact (h.filter _).length_eq
theorem drop_all {x : List α} {k : Int} (h : (x.length : Int) < k) : dropN x k = x.length := by
  unfold dropN
  rw [List.filter_eq_self.2 fun a _ => by
    have := cn_le x a
    simp only [big, Bool.not_eq_true', decide_eq_false_iff_not]; omega]
theorem drop_twice (x : List α) (k : Int) : dropN (x ++ x) (2 * k) = 2 * dropN x k := by
  unfold dropN
  have e : (fun a => !big (x ++ x) (2 * k) a) = fun a => !big x k a := by
    funext a; rw [big, big, cn_app]; congr 1; rw [decide_eq_decide]; omega
  rw [e, List.filter_append, List.length_append]; omega
theorem drop_join {x : List α} {k : Int} (h : dropN x k = 0) : dropN (x ++ x) k = 0 := drop_zero.2 fun a ha => by
  have := drop_zero.1 h a (by simpa using ha)
  rw [cn_app]; omega
theorem cn_keep {x : List α} {k : Int} {a : α} (h : big x k a = true) : cn (keepN x k) a = cn x a := by
  unfold cn keepN; rw [List.filter_filter]
  congr 1
  refine List.filter_congr fun c _ => ?_
  by_cases hc : c = a
  · subst hc; simp [h]
  · simp [hc]
theorem keep_mem {x : List α} {k : Int} {a : α} : a ∈ keepN x k ↔ a ∈ x ∧ big x k a = true := List.mem_filter
theorem keep_zero (x : List α) (k : Int) : dropN (keepN x k) k = 0 := drop_zero.2 fun a ha => by
  have h := (keep_mem.1 ha).2
  rw [cn_keep h]
  simpa [big] using h
theorem keep_keep (x : List α) {k k' : Int} (h : k ≤ k') : keepN (keepN x k) k' = keepN x k' := by
  unfold keepN
  rw [List.filter_filter]
  refine List.filter_congr fun a _ => ?_
  by_cases hb : big x k a = true
  · have e := cn_keep hb
    unfold keepN at e
    rw [hb, Bool.and_true, big, e, ← big]
  · have h1 : big x k' a = false := by
      simp only [big, decide_eq_true_eq] at hb
      simp only [big, decide_eq_false_iff_not]; omega
    have h2 : big x k a = false := by simpa using hb
    rw [h1, h2, Bool.and_false]
theorem many_filter (p : α → Bool) : ∀ l : List α, many1 (l.filter p) ≤ many1 l
  | [] => Nat.le_refl _
  | a :: r => by
    have i := many_filter p r
    cases hp : p a
    · simp only [List.filter_cons, hp, Bool.false_eq_true, if_false, many1]; omega
    · have e : a ∈ r.filter p ↔ a ∈ r := by simp [hp]
      simp only [List.filter_cons, hp, if_true, many1, e]; omega
theorem keep_uniq (x : List α) {k : Int} (h : 1 < k) : uniq1 (keepN x k) = 0 := by
  unfold uniq1
  rw [List.length_eq_zero_iff, List.filter_eq_nil_iff]
  intro a ha
  have h1 := drop_zero.1 (keep_zero x k) a ha
  simp only [decide_eq_true_eq]; omega
theorem least_ge {x : List α} {k : Int} (h : dropN x k = 0) (hx : x ≠ []) : k ≤ (least1 x : Int) := by
  obtain ⟨a, ha, he⟩ := least1_is x hx
  rw [he]; exact drop_zero.1 h a ha
end
/-- People of small groups, and the others. -/
def adOk (l : List Pn) (ll : List (List Int)) (r : Rc) (k : Int) : Bool := grOk l ll r && in3 k 1 40
def adrop (l : List Pn) (ll : List (List Int)) (r : Rc) (k : Int) : Int := if adOk l ll r k = true then dropN (keysOf l ll r) k else -1
def aok (l : List Pn) (ll : List (List Int)) (r : Rc) (k : Int) : Bool := decide (adrop l ll r k = 0)
def bigP (x : List Pn) (k : Int) (p : Pn) : Bool := big (keys x) k (key p)
def keepP (x : List Pn) (k : Int) : List Pn := x.filter (bigP x k)
def akeep (l : List Pn) (ll : List (List Int)) (r : Rc) (k : Int) : List Pn := if adOk l ll r k = true then keepP (recL ll r l) k else []
def acost (ll : List (List Int)) (r : Rc) : Int := if rcOk ll r = true then r.area + r.job + r.sex else -1
theorem keys_keep (x : List Pn) (k : Int) : keys (keepP x k) = keepN (keys x) k := by
  unfold keys keepP keepN
  rw [List.filter_map]; rfl
theorem keepP_keep (x : List Pn) {k k' : Int} (h : k ≤ k') : keepP (keepP x k) k' = keepP x k' := by
  unfold keepP
  rw [List.filter_filter]
  refine List.filter_congr fun p _ => ?_
  by_cases hb : big (keys x) k (key p) = true
  · have e := cn_keep hb
    rw [← keys_keep] at e
    unfold keepP at e
    rw [bigP, bigP, bigP, hb, Bool.and_true, big, e, ← big]
  · have h1 : big (keys x) k' (key p) = false := by
      simp only [big, decide_eq_true_eq] at hb
      simp only [big, decide_eq_false_iff_not]; omega
    have h2 : big (keys x) k (key p) = false := by simpa using hb
    rw [bigP, bigP, bigP, h1, h2, Bool.and_false]
theorem keepP_same (x : List Pn) (k : Int) : keepP (keepP x k) k = keepP x k := keepP_keep x (Int.le_refl _)
theorem keepP_one (x : List Pn) : keepP x 1 = x := by
  unfold keepP
  refine List.filter_eq_self.2 fun p hp => ?_
  have h : 0 < cn (keys x) (key p) := cn_pos.2 (List.mem_map.2 ⟨p, hp, rfl⟩)
  rw [bigP, big, decide_eq_true_eq]; omega
theorem keepP_len (x : List Pn) (k : Int) : (keepP x k).length + dropN (keys x) k = x.length := by
  have h := drop_keep (keys x) k
  rw [← keys_keep] at h
  unfold keys at h ⊢
  rw [List.length_map, List.length_map] at h; exact h
theorem keepP_le (x : List Pn) (k : Int) : (keepP x k).length ≤ x.length := List.length_filter_le _ _
theorem keepP_ok {x : List Pn} (h : okL x = true) (k : Int) : okL (keepP x k) = true :=
  okL_mk (Nat.le_trans (keepP_le x k) (okL_all h).1) fun p hp => okL_mem h p (List.mem_filter.1 hp).1
theorem ad_parts {l : List Pn} {ll : List (List Int)} {r : Rc} {k : Int} : adOk l ll r k = true ↔ grOk l ll r = true ∧ 1 ≤ k ∧ k ≤ 40 := by
  simp only [adOk, Bool.and_eq_true, in3_parts]
theorem adrop_at {l : List Pn} {ll : List (List Int)} {r : Rc} {k : Int} (h : adOk l ll r k = true) : adrop l ll r k = dropN (keysOf l ll r) k := by rw [adrop, if_pos h]
theorem adrop_no {l : List Pn} {ll : List (List Int)} {r : Rc} {k : Int} (h : adOk l ll r k = false) : adrop l ll r k = -1 := by rw [adrop, h]; rfl
theorem adrop_in {l : List Pn} {ll : List (List Int)} {r : Rc} {k : Int} (h : 0 ≤ adrop l ll r k) : adOk l ll r k = true := by
  cases hc : adOk l ll r k
  · rw [adrop_no hc] at h; omega
  · rfl
theorem adrop_neg {l : List Pn} {ll : List (List Int)} {r : Rc} {k : Int} (h : adrop l ll r k < 0) : adrop l ll r k = -1 := by
  cases hc : adOk l ll r k
  · exact adrop_no hc
  · rw [adrop_at hc] at h; omega
theorem adrop_le (l : List Pn) (ll : List (List Int)) (r : Rc) (k : Int) : -1 ≤ adrop l ll r k ∧ adrop l ll r k ≤ l.length := by
  cases hc : adOk l ll r k
  · rw [adrop_no hc]; omega
  · rw [adrop_at hc]
    have := drop_le (keysOf l ll r) k
    rw [keysOf_len] at this; omega
theorem akeep_at {l : List Pn} {ll : List (List Int)} {r : Rc} {k : Int} (h : adOk l ll r k = true) : akeep l ll r k = keepP (recL ll r l) k := by rw [akeep, if_pos h]
theorem akeep_no {l : List Pn} {ll : List (List Int)} {r : Rc} {k : Int} (h : adOk l ll r k = false) : akeep l ll r k = [] := by rw [akeep, h]; rfl
theorem akeep_len (l : List Pn) (ll : List (List Int)) (r : Rc) (k : Int) : (akeep l ll r k).length ≤ l.length := by
  unfold akeep; split
  · have := keepP_le (recL ll r l) k; rw [recL_len] at this; exact this
  · simp
/-- A coarser recoding drops fewer. -/
theorem drop_finer {l : List Pn} {ll : List (List Int)} {r s : Rc} (hl : okL l = true) (hr : rcOk ll r = true) (hs : rcOk ll s = true) (hf : finer r s) (k : Int) : dropN (keysOf l ll s) k ≤ dropN (keysOf l ll r) k := by
  rw [keys_finer hl hr hs hf]; exact drop_map _ _ _
/-- All recodings for a ladder, in their order. -/
def rcs4 (a : Nat) : List Rc := [⟨a, 0, 0⟩, ⟨a, 0, 1⟩, ⟨a, 1, 0⟩, ⟨a, 1, 1⟩]
def rcsTo (n : Nat) : List Rc := (List.range n).flatMap rcs4
def rcs (ll : List (List Int)) : List Rc := rcsTo (ll.length + 1)
theorem rcs_mem {ll : List (List Int)} (h0 : ladOk ll = true) {r : Rc} : r ∈ rcs ll ↔ rcOk ll r = true := by
  unfold rcs rcsTo
  simp only [List.mem_flatMap, List.mem_range, rcs4, List.mem_cons, List.not_mem_nil, or_false]
  constructor
  · rintro ⟨a, ha, h⟩
    refine rc_mk h0 ?_ ?_ ?_ ?_ ?_ ?_ <;> rcases h with rfl | rfl | rfl | rfl <;> simp only <;> omega
  · intro h
    obtain ⟨_, a0, a1, j0, j1, s0, s1⟩ := rc_parts h
    obtain ⟨ra, rj, rs⟩ := r
    simp only at a0 a1 j0 j1 s0 s1
    refine ⟨ra.toNat, by omega, ?_⟩
    have ea : ((ra.toNat : Nat) : Int) = ra := by omega
    rw [ea]
    rcases (show rj = 0 ∨ rj = 1 by omega) with rfl | rfl <;> rcases (show rs = 0 ∨ rs = 1 by omega) with rfl | rfl <;> simp
section
variable (l : List Pn) (ll : List (List Int)) (k drop : Int)
def betterB (b : Option Rc) (r : Rc) : Bool := decide (adrop l ll r k ≤ drop) && match b with | none => true | some q => decide (acost ll r < acost ll q)
def bstep (b : Option Rc) (r : Rc) : Option Rc := if betterB l ll k drop b r = true then some r else b
def bfold (x : List Rc) : Option Rc := x.foldl (bstep l ll k drop) none
def abOk : Bool := okL l && ladOk ll && in3 k 1 40
def abest : Option Rc := if abOk l ll k = true then bfold l ll k drop (rcs ll) else none
theorem bfold_snoc (x : List Rc) (r : Rc) : bfold l ll k drop (x ++ [r]) = bstep l ll k drop (bfold l ll k drop x) r := by simp [bfold]
/-- The fold finds one if there is one, and none is better. -/
theorem bfold_is (x : List Rc) : (∀ b, bfold l ll k drop x = some b → b ∈ x ∧ adrop l ll b k ≤ drop ∧ ∀ r ∈ x, adrop l ll r k ≤ drop → acost ll b ≤ acost ll r) ∧ (bfold l ll k drop x = none → ∀ r ∈ x, ¬ adrop l ll r k ≤ drop) := by
  suffices h : ∀ (y : List Rc) (z : List Rc), ((∀ b, bfold l ll k drop z = some b → b ∈ z ∧ adrop l ll b k ≤ drop ∧ ∀ r ∈ z, adrop l ll r k ≤ drop → acost ll b ≤ acost ll r) ∧ (bfold l ll k drop z = none → ∀ r ∈ z, ¬ adrop l ll r k ≤ drop)) →
      ((∀ b, bfold l ll k drop (z ++ y) = some b → b ∈ z ++ y ∧ adrop l ll b k ≤ drop ∧ ∀ r ∈ z ++ y, adrop l ll r k ≤ drop → acost ll b ≤ acost ll r) ∧ (bfold l ll k drop (z ++ y) = none → ∀ r ∈ z ++ y, ¬ adrop l ll r k ≤ drop)) by
    have := h x [] ⟨fun b hb => by simp [bfold] at hb, fun _ r hr => by cases hr⟩
    simpa using this
  intro y
  induction y with
  | nil => intro z hz; simpa using hz
  | cons r y ih =>
    intro z hz
    have e : z ++ r :: y = (z ++ [r]) ++ y := by simp
    rw [e]
    refine ih _ ?_
    rw [bfold_snoc]
    obtain ⟨h1, h2⟩ := hz
    cases hb : bfold l ll k drop z with
    | none =>
      have hn := h2 hb
      by_cases hd : adrop l ll r k ≤ drop
      · have e2 : bstep l ll k drop none r = some r := by simp [bstep, betterB, hd]
        rw [e2]
        refine ⟨fun b hb2 => ?_, fun hb2 => by cases hb2⟩
        injection hb2 with hb2
        subst hb2
        refine ⟨by simp, hd, fun s hs hs2 => ?_⟩
        rcases List.mem_append.1 hs with hs | hs
        · exact absurd hs2 (hn s hs)
        · rw [List.mem_singleton.1 hs]; exact Int.le_refl _
      · have e2 : bstep l ll k drop none r = none := by simp [bstep, betterB, hd]
        rw [e2]
        refine ⟨fun b hb2 => (by cases hb2), fun _ s hs => ?_⟩
        rcases List.mem_append.1 hs with hs | hs
        · exact hn s hs
        · rw [List.mem_singleton.1 hs]; exact hd
    | some q =>
      obtain ⟨g1, g2, g3⟩ := h1 q hb
      by_cases hd : adrop l ll r k ≤ drop ∧ acost ll r < acost ll q
      · have e2 : bstep l ll k drop (some q) r = some r := by simp [bstep, betterB, hd.1, hd.2]
        rw [e2]
        refine ⟨fun b hb2 => ?_, fun hb2 => by cases hb2⟩
        injection hb2 with hb2
        subst hb2
        refine ⟨by simp, hd.1, fun s hs hs2 => ?_⟩
        rcases List.mem_append.1 hs with hs | hs
        · have := g3 s hs hs2; omega
        · rw [List.mem_singleton.1 hs]; exact Int.le_refl _
      · have e2 : bstep l ll k drop (some q) r = some q := by
          rw [bstep, if_neg]
          simp only [betterB, Bool.and_eq_true, decide_eq_true_eq]; exact hd
        rw [e2]
        refine ⟨fun b hb2 => ?_, fun hb2 => by cases hb2⟩
        injection hb2 with hb2
        subst hb2
        refine ⟨by simp [g1], g2, fun s hs hs2 => ?_⟩
        rcases List.mem_append.1 hs with hs | hs
        · exact g3 s hs hs2
        · rw [List.mem_singleton.1 hs] at hs2 ⊢
          rcases Int.lt_or_le (acost ll r) (acost ll q) with hlt | hle
          · exact absurd ⟨hs2, hlt⟩ hd
          · exact hle
end
theorem ab_parts {l : List Pn} {ll : List (List Int)} {k : Int} : abOk l ll k = true ↔ okL l = true ∧ ladOk ll = true ∧ 1 ≤ k ∧ k ≤ 40 := by
  simp only [abOk, Bool.and_eq_true, in3_parts, and_assoc]
theorem acost_at {ll : List (List Int)} {r : Rc} (h : rcOk ll r = true) : acost ll r = r.area + r.job + r.sex := by rw [acost, if_pos h]
/-- What the best one is. -/
theorem abest_some {l : List Pn} {ll : List (List Int)} {k drop : Int} {b : Rc} (h : abest l ll k drop = some b) :
    okL l = true ∧ ladOk ll = true ∧ 1 ≤ k ∧ k ≤ 40 ∧ rcOk ll b = true ∧ adrop l ll b k ≤ drop ∧ ∀ r, rcOk ll r = true → adrop l ll r k ≤ drop → acost ll b ≤ acost ll r := by
  unfold abest at h
  split at h
  · rename_i hok
    obtain ⟨h1, h2, h3, h4⟩ := ab_parts.1 hok
    obtain ⟨g1, g2, g3⟩ := (bfold_is l ll k drop (rcs ll)).1 b h
    exact ⟨h1, h2, h3, h4, (rcs_mem h2).1 g1, g2, fun r hr => g3 r ((rcs_mem h2).2 hr)⟩
  · cases h
theorem abest_ex {l : List Pn} {ll : List (List Int)} {k drop : Int} (h1 : okL l = true) (h2 : ladOk ll = true) (h3 : 1 ≤ k) (h4 : k ≤ 40) {r : Rc} (hr : rcOk ll r = true) (hd : adrop l ll r k ≤ drop) :
    ∃ b, abest l ll k drop = some b ∧ rcOk ll b = true ∧ adrop l ll b k ≤ drop ∧ acost ll b ≤ acost ll r := by
  cases hb : abest l ll k drop with
  | none =>
    unfold abest at hb
    rw [if_pos (ab_parts.2 ⟨h1, h2, h3, h4⟩)] at hb
    exact absurd hd ((bfold_is l ll k drop (rcs ll)).2 hb r ((rcs_mem h2).2 hr))
  | some b =>
    obtain ⟨_, _, _, _, g1, g2, g3⟩ := abest_some hb
    exact ⟨b, rfl, g1, g2, g3 r hr hd⟩
theorem abest_low {l : List Pn} {ll : List (List Int)} {k drop : Int} (h1 : okL l = true) (h2 : ladOk ll = true) (h3 : 1 ≤ k) (h4 : k ≤ 40) (hd : adrop l ll rlow k ≤ drop) : abest l ll k drop = some rlow := by
  obtain ⟨b, hb, hr, _, hc⟩ := abest_ex h1 h2 h3 h4 (rlow_ok h2) hd
  rw [acost_at hr, acost_at (rlow_ok h2)] at hc
  obtain ⟨_, a0, _, j0, _, s0, _⟩ := rc_parts hr
  obtain ⟨ra, rj, rs⟩ := b
  simp only [rlow] at hc a0 j0 s0
  rw [hb]
  have e1 : ra = 0 := by omega
  have e2 : rj = 0 := by omega
  have e3 : rs = 0 := by omega
  subst e1 e2 e3; rfl
end Go.Proofs.Ytaaljmmnfgghfaa
namespace Go.Proofs.Ytaaljmmnfgghfaa
open Go.RowKit
/-- How many of the first ones are in small groups. -/
def dropTo (l : List Pn) (ll : List (List Int)) (r : Rc) (k : Int) (n : Nat) : Nat := ((List.range n).filter fun j : Nat => decide (gsize l ll r j < k)).length
theorem dropTo_succ (l : List Pn) (ll : List (List Int)) (r : Rc) (k : Int) (n : Nat) : dropTo l ll r k (n + 1) = dropTo l ll r k n + if gsize l ll r n < k then 1 else 0 := by
  unfold dropTo
  rw [List.range_succ, List.filter_append, List.length_append]
  congr 1
  by_cases h : gsize l ll r n < k <;> simp [h]
theorem dropTo_le (l : List Pn) (ll : List (List Int)) (r : Rc) (k : Int) (n : Nat) : dropTo l ll r k n ≤ n := by
  unfold dropTo
  have := List.length_filter_le (fun j : Nat => decide (gsize l ll r j < k)) (List.range n)
  rwa [List.length_range] at this
theorem keysOf_range (l : List Pn) (ll : List (List Int)) (r : Rc) : keysOf l ll r = (List.range l.length).map (ky ll r l) := by
  unfold keysOf keys recL
  rw [List.map_map]
  apply List.ext_getElem
  · simp
  · intro i h1 h2
    simp only [List.length_map] at h1
    simp only [List.getElem_map, List.getElem_range, Function.comp]
    unfold ky
    rw [List.getD_eq_getElem?_getD, List.getElem?_eq_getElem h1]; rfl
theorem dropTo_all {l : List Pn} {ll : List (List Int)} {r : Rc} (h : grOk l ll r = true) (k : Int) : dropTo l ll r k l.length = dropN (keysOf l ll r) k := by
  have e : dropN (keysOf l ll r) k = ((List.range l.length).filter fun j : Nat => !big (keysOf l ll r) k (ky ll r l j)).length := by
    unfold dropN
    conv => lhs; arg 1; arg 2; rw [keysOf_range]
    rw [List.filter_map, List.length_map]; rfl
  rw [e]
  unfold dropTo
  congr 1
  refine List.filter_congr fun j hj => ?_
  have hj2 : j < l.length := by simpa using hj
  rw [gsize_at h hj2, big, cnk]
  rw [Bool.eq_iff_iff]
  simp only [decide_eq_true_eq, Bool.not_eq_true', decide_eq_false_iff_not]; omega
/-- P50. -/
theorem m_drop {l : List Pn} {ll : List (List Int)} {r : Rc} {k : Int} (h : 0 ≤ adrop l ll r k) :
    (dropTo l ll r k l.length : Int) = adrop l ll r k ∧ adrop l ll r 1 = 0 ∧ ((adrop l ll r k ≤ adrop l ll r (k + 1)) ∨ (k = 40 ∧ adrop l ll r (k + 1) = -1)) := by
  have ha := adrop_in h
  obtain ⟨hg, k1, k2⟩ := ad_parts.1 ha
  refine ⟨by rw [dropTo_all hg, adrop_at ha], by rw [adrop_at (ad_parts.2 ⟨hg, by omega, by omega⟩), drop_one]; rfl, ?_⟩
  by_cases hk : k = 40
  · right
    refine ⟨hk, adrop_no ?_⟩
    cases hc : adOk l ll r (k + 1)
    · rfl
    · have := (ad_parts.1 hc).2.2; omega
  · left
    rw [adrop_at ha, adrop_at (ad_parts.2 ⟨hg, by omega, by omega⟩)]
    have := drop_mono (keysOf l ll r) (show k ≤ k + 1 by omega)
    omega
/-- P51. -/
theorem m_dropCoarser {l : List Pn} {ll : List (List Int)} {r : Rc} {k : Int} (h : 0 ≤ adrop l ll r k) :
    0 ≤ adrop l ll (rtop ll) k ∧ adrop l ll (rtop ll) k ≤ adrop l ll r k ∧ adrop l ll r k ≤ adrop l ll rlow k := by
  have ha := adrop_in h
  obtain ⟨hg, k1, k2⟩ := ad_parts.1 ha
  obtain ⟨h1, h2⟩ := gr_parts.1 hg
  have ht := rtop_ok (rc_parts h2).1
  have hl := rlow_ok (rc_parts h2).1
  rw [adrop_at ha, adrop_at (ad_parts.2 ⟨gr_top hg, k1, k2⟩), adrop_at (ad_parts.2 ⟨gr_low hg, k1, k2⟩)]
  have a := drop_finer h1 h2 ht (finer_top h2) k
  have b := drop_finer h1 hl h2 (low_finer h2) k
  omega
theorem aok_iff {l : List Pn} {ll : List (List Int)} {r : Rc} {k : Int} : aok l ll r k = true ↔ adOk l ll r k = true ∧ dropN (keysOf l ll r) k = 0 := by
  unfold aok
  rw [decide_eq_true_eq]
  constructor
  · intro h
    have ha := adrop_in (show 0 ≤ adrop l ll r k by omega)
    rw [adrop_at ha] at h
    exact ⟨ha, by omega⟩
  · rintro ⟨ha, h⟩
    rw [adrop_at ha, h]; rfl
/-- P52. -/
theorem m_anonOk {l : List Pn} {ll : List (List Int)} {r : Rc} {k : Int} (h : aok l ll r k = true) : 1 ≤ k ∧ k ≤ 40 ∧ (l = [] ∨ k ≤ gleast l ll r) ∧ ∀ j, 1 ≤ j → j ≤ k → aok l ll r j = true := by
  obtain ⟨ha, hd⟩ := aok_iff.1 h
  obtain ⟨hg, k1, k2⟩ := ad_parts.1 ha
  refine ⟨k1, k2, ?_, fun j j1 j2 => aok_iff.2 ⟨ad_parts.2 ⟨hg, j1, by omega⟩, ?_⟩⟩
  · by_cases hl : l = []
    · exact .inl hl
    · right
      rw [gleast_at hg]
      exact least_ge hd fun e => hl (by have := keysOf_len l ll r; rw [e] at this; exact List.eq_nil_of_length_eq_zero this.symm)
  · have := drop_mono (keysOf l ll r) j2; omega
/-- P53. -/
theorem m_anonCoarser {l : List Pn} {ll : List (List Int)} {r s : Rc} {k : Int} (h : aok l ll r k = true) (hs : rcOk ll s = true) (hf : finer r s) : aok l ll s k = true := by
  obtain ⟨ha, hd⟩ := aok_iff.1 h
  obtain ⟨hg, k1, k2⟩ := ad_parts.1 ha
  obtain ⟨h1, h2⟩ := gr_parts.1 hg
  refine aok_iff.2 ⟨ad_parts.2 ⟨gr_parts.2 ⟨h1, hs⟩, k1, k2⟩, ?_⟩
  have := drop_finer h1 h2 hs hf k; omega
theorem recL_key (x : List Pn) (ll : List (List Int)) : keysOf x ll rlow = keys x := by unfold keysOf; rw [recL_low]
theorem akeep_low {x : List Pn} {ll : List (List Int)} {k : Int} (hx : okL x = true) (h0 : ladOk ll = true) (k1 : 1 ≤ k) (k2 : k ≤ 40) : akeep x ll rlow k = keepP x k := by
  rw [akeep_at (ad_parts.2 ⟨gr_parts.2 ⟨hx, rlow_ok h0⟩, k1, k2⟩), recL_low]
theorem ad_keep {l : List Pn} {ll : List (List Int)} {r : Rc} {k : Int} (h : adOk l ll r k = true) : okL (akeep l ll r k) = true ∧ ladOk ll = true ∧ 1 ≤ k ∧ k ≤ 40 := by
  obtain ⟨hg, k1, k2⟩ := ad_parts.1 h
  rw [akeep_at h]
  exact ⟨keepP_ok (recL_ok hg) k, (rc_parts (gr_parts.1 hg).2).1, k1, k2⟩
/-- P54. -/
theorem m_keep {l : List Pn} {ll : List (List Int)} {r : Rc} {k : Int} (h : adOk l ll r k = true) :
    akeep (akeep l ll r k) ll rlow k = akeep l ll r k ∧ adOk (akeep l ll r k) ll rlow k = true ∧ ((akeep l ll r k).length : Int) = l.length - adrop l ll r k ∧ aok (akeep l ll r k) ll rlow k = true := by
  obtain ⟨h1, h0, k1, k2⟩ := ad_keep h
  obtain ⟨hg, _, _⟩ := ad_parts.1 h
  have had : adOk (akeep l ll r k) ll rlow k = true := ad_parts.2 ⟨gr_parts.2 ⟨h1, rlow_ok h0⟩, k1, k2⟩
  refine ⟨by rw [akeep_low h1 h0 k1 k2, akeep_at h, keepP_same], had, ?_, aok_iff.2 ⟨had, ?_⟩⟩
  · rw [adrop_at h, akeep_at h]
    have := keepP_len (recL ll r l) k
    rw [recL_len] at this
    unfold keysOf; omega
  · rw [recL_key, akeep_at h, keys_keep]; exact keep_zero _ _
/-- P55: kept people are found again one after the other. -/
def found (y out : List Pn) (i : Nat) : Nat := (y.take i).foldl (fun at_ p => if at_ < out.length ∧ p = out.getD at_ p00 then at_ + 1 else at_) 0
theorem found_succ (y out : List Pn) (i : Nat) (hi : i < y.length) : found y out (i + 1) = if found y out i < out.length ∧ y[i] = out.getD (found y out i) p00 then found y out i + 1 else found y out i := by
  unfold found
  rw [List.take_succ_eq_append_getElem hi, List.foldl_append]; rfl
theorem found_le (y out : List Pn) (i : Nat) : found y out i ≤ out.length := by
  unfold found
  suffices h : ∀ (z : List Pn) (a : Nat), a ≤ out.length → z.foldl (fun at_ p => if at_ < out.length ∧ p = out.getD at_ p00 then at_ + 1 else at_) a ≤ out.length from h _ 0 (Nat.zero_le _)
  intro z
  induction z with
  | nil => intro a ha; exact ha
  | cons p z ih => intro a ha; simp only [List.foldl_cons]; split <;> exact ih _ (by omega)
theorem found_sub (out : List Pn) : ∀ (y : List Pn) (a : Nat), a ≤ out.length → List.Sublist (out.drop a) y → y.foldl (fun at_ p => if at_ < out.length ∧ p = out.getD at_ p00 then at_ + 1 else at_) a = out.length
  | [], a, ha, hs => by
    have := List.drop_eq_nil_iff.1 (List.sublist_nil.1 hs)
    simp only [List.foldl_nil]; omega
  | p :: y, a, ha, hs => by
    simp only [List.foldl_cons]
    by_cases hlt : a < out.length
    · have hd : out.drop a = out[a] :: out.drop (a + 1) := List.drop_eq_getElem_cons hlt
      have hg : out.getD a p00 = out[a] := by rw [List.getD_eq_getElem?_getD, List.getElem?_eq_getElem hlt]; rfl
      rw [hg]
      by_cases hp : p = out[a]
      · rw [if_pos ⟨hlt, hp⟩]
        refine found_sub out y (a + 1) (by omega) ?_
        rw [hd, hp] at hs; exact List.cons_sublist_cons.1 hs
      · rw [if_neg (fun h => hp h.2)]
        refine found_sub out y a ha ?_
        rw [hd] at hs ⊢
        cases hs with
        | cons _ h => exact h
        | cons_cons _ h => exact absurd rfl hp
    · rw [if_neg (fun h => hlt h.1)]
      refine found_sub out y a ha ?_
      have : out.drop a = [] := List.drop_eq_nil_iff.2 (by omega)
      rw [this]; exact List.nil_sublist _
theorem found_all {y out : List Pn} (h : List.Sublist out y) : found y out y.length = out.length := by
  unfold found; rw [List.take_length]; exact found_sub out y 0 (Nat.zero_le _) (by simpa using h)
theorem m_keepPeople {l : List Pn} {ll : List (List Int)} {r : Rc} {k : Int} (h : adOk l ll r k = true) :
    adOk l ll r 1 = true ∧ akeep l ll r 1 = recL ll r l ∧ List.Sublist (akeep l ll r k) (recL ll r l) := by
  obtain ⟨hg, k1, k2⟩ := ad_parts.1 h
  have h1 : adOk l ll r 1 = true := ad_parts.2 ⟨hg, by omega, by omega⟩
  refine ⟨h1, by rw [akeep_at h1, keepP_one], ?_⟩
  rw [akeep_at h]; exact List.filter_sublist
/-- P56. -/
theorem m_cost {ll : List (List Int)} {r : Rc} (h : 0 ≤ acost ll r) : rcOk ll r = true ∧ acost ll r ≤ ll.length + 2 ∧ (acost ll r = 0 ↔ r = rlow) ∧ acost ll r ≤ acost ll ⟨r.area, 1, r.sex⟩ ∧ acost ll ⟨r.area, 1, r.sex⟩ ≤ acost ll r + 1 := by
  have hr : rcOk ll r = true := by
    cases hc : rcOk ll r
    · rw [acost, hc] at h; simp at h
    · rfl
  obtain ⟨h0, a0, a1, j0, j1, s0, s1⟩ := rc_parts hr
  have h2 : rcOk ll ⟨r.area, 1, r.sex⟩ = true := rc_mk h0 a0 a1 (by simp) (by simp) s0 s1
  rw [acost_at hr, acost_at h2]
  refine ⟨hr, by omega, ?_, by simp only; omega, by simp only; omega⟩
  obtain ⟨ra, rj, rs⟩ := r
  simp only at a0 j0 s0 ⊢
  constructor
  · intro h3
    have e1 : ra = 0 := by omega
    have e2 : rj = 0 := by omega
    have e3 : rs = 0 := by omega
    subst e1 e2 e3; rfl
  · intro h3
    injection h3 with e1 e2 e3
    omega
theorem acost_neg {ll : List (List Int)} {r : Rc} (h : acost ll r < 0) : acost ll r = -1 := by
  unfold acost at *; split <;> rename_i hc
  · rw [if_pos hc] at h
    obtain ⟨_, a0, _, j0, _, s0, _⟩ := rc_parts hc; omega
  · rfl
/-- P57. -/
theorem m_best {l : List Pn} {ll : List (List Int)} {k drop : Int} {b : Rc} (h : abest l ll k drop = some b) : 0 ≤ acost ll b ∧ adrop l ll b k ≤ drop ∧ ∀ r, rcOk ll r = true → ¬ (adrop l ll r k ≤ drop ∧ acost ll r < acost ll b) := by
  obtain ⟨_, _, _, _, g1, g2, g3⟩ := abest_some h
  refine ⟨?_, g2, fun r hr hc => by have := g3 r hr hc.1; omega⟩
  obtain ⟨_, a0, _, j0, _, s0, _⟩ := rc_parts g1
  rw [acost_at g1]; omega
/-- P58. -/
theorem m_bestMore {l : List Pn} {ll : List (List Int)} {k drop : Int} {b : Rc} (h : abest l ll k drop = some b) :
    (∃ y, abest l ll k (drop + 1) = some y ∧ acost ll y ≤ acost ll b) ∧ ((k = 1 ∧ abest l ll (k - 1) drop = none) ∨ (k ≠ 1 ∧ ∃ z, abest l ll (k - 1) drop = some z ∧ acost ll z ≤ acost ll b)) := by
  obtain ⟨h1, h2, k1, k2, g1, g2, g3⟩ := abest_some h
  constructor
  · obtain ⟨y, hy, _, _, hc⟩ := abest_ex (drop := drop + 1) h1 h2 k1 k2 g1 (by omega)
    exact ⟨y, hy, hc⟩
  · by_cases hk : k = 1
    · left
      refine ⟨hk, ?_⟩
      unfold abest
      rw [if_neg]
      intro hc
      have := (ab_parts.1 hc).2.2.1; omega
    · right
      refine ⟨hk, ?_⟩
      have hg : grOk l ll b = true := gr_parts.2 ⟨h1, g1⟩
      have hd : adrop l ll b (k - 1) ≤ drop := by
        rw [adrop_at (ad_parts.2 ⟨hg, k1, k2⟩)] at g2
        rw [adrop_at (ad_parts.2 ⟨hg, by omega, by omega⟩)]
        have := drop_mono (keysOf l ll b) (show k - 1 ≤ k by omega); omega
      obtain ⟨z, hz, _, _, hc⟩ := abest_ex (drop := drop) h1 h2 (show 1 ≤ k - 1 by omega) (by omega) g1 hd
      exact ⟨z, hz, hc⟩
/-- P59. -/
theorem m_bestTop {l : List Pn} {ll : List (List Int)} {k drop : Int} {b : Rc} (h : abest l ll k drop = some b) : 0 ≤ adrop l ll (rtop ll) k ∧ adrop l ll (rtop ll) k ≤ drop ∧ rcOk ll b = true := by
  obtain ⟨h1, h2, k1, k2, g1, g2, g3⟩ := abest_some h
  have hg : grOk l ll b = true := gr_parts.2 ⟨h1, g1⟩
  have ha := ad_parts.2 ⟨hg, k1, k2⟩
  have := m_dropCoarser (show 0 ≤ adrop l ll b k by rw [adrop_at ha]; omega)
  exact ⟨this.1, by omega, g1⟩
/-- P60. -/
theorem m_dropOrder {l m : List Pn} {ll : List (List Int)} {r : Rc} {k : Int} (h : 0 ≤ adrop l ll r k) (hp : m.Perm l) : adrop m ll r k = adrop l ll r k ∧ adrop l ll r k ≤ l.length := by
  have ha := adrop_in h
  obtain ⟨hg, k1, k2⟩ := ad_parts.1 ha
  refine ⟨?_, (adrop_le l ll r k).2⟩
  rw [adrop_at ha, adrop_at (ad_parts.2 ⟨gr_perm hg hp, k1, k2⟩), drop_perm (keysOf_perm hp ll r)]
/-- P61. -/
theorem m_dropAll {l : List Pn} {ll : List (List Int)} {r : Rc} {k : Int} (h : 0 ≤ adrop l ll r k) : k ≤ l.length ∨ adrop l ll r k = l.length := by
  have ha := adrop_in h
  by_cases hk : k ≤ l.length
  · exact .inl hk
  · right
    rw [adrop_at ha, drop_all (by rw [keysOf_len]; omega), keysOf_len]
/-- P62. -/
theorem m_dropTwice {l : List Pn} {ll : List (List Int)} {r : Rc} {k : Int} (h : 0 ≤ adrop l ll r k) (hl : 2 * l.length ≤ 40) (hk : 2 * k ≤ 40) : adrop (l ++ l) ll r (2 * k) = 2 * adrop l ll r k := by
  have ha := adrop_in h
  obtain ⟨hg, k1, k2⟩ := ad_parts.1 ha
  rw [adrop_at ha, adrop_at (ad_parts.2 ⟨gr_app hg (okL_mem (gr_parts.1 hg).1) (by rw [List.length_append]; omega), by omega, hk⟩), keysOf_app, drop_twice]
  omega
/-- P63. -/
theorem m_keepGroups {l : List Pn} {ll : List (List Int)} {r : Rc} {k : Int} (h : adOk l ll r k = true) :
    gmany (akeep l ll r k) ll rlow ≤ gmany l ll r ∧ (k = 1 ∨ guniq (akeep l ll r k) ll rlow = 0) := by
  obtain ⟨h1, h0, k1, k2⟩ := ad_keep h
  obtain ⟨hg, _, _⟩ := ad_parts.1 h
  have hgk : grOk (akeep l ll r k) ll rlow = true := gr_parts.2 ⟨h1, rlow_ok h0⟩
  rw [gmany_at hg, gmany_at hgk, guniq_at hgk, recL_key, akeep_at h, keys_keep]
  refine ⟨by have := many_filter (big (keys (recL ll r l)) k) (keys (recL ll r l)); unfold keepN keysOf; omega, ?_⟩
  by_cases hk : k = 1
  · exact .inl hk
  · right; rw [keep_uniq _ (by omega)]; rfl
/-- P64. -/
theorem m_bestNone {l : List Pn} {ll : List (List Int)} {k drop : Int} {b : Rc} (h : abest l ll k drop = some b) : abest l ll 1 0 = some rlow ∧ abest l ll k l.length = some rlow ∧ rcOk ll b = true := by
  obtain ⟨h1, h2, k1, k2, g1, g2, g3⟩ := abest_some h
  have hg : grOk l ll rlow = true := gr_parts.2 ⟨h1, rlow_ok h2⟩
  refine ⟨abest_low h1 h2 (by omega) (by omega) ?_, abest_low h1 h2 k1 k2 (adrop_le _ _ _ _).2, g1⟩
  rw [adrop_at (ad_parts.2 ⟨hg, by omega, by omega⟩), drop_one]; exact Int.le_refl _
/-- P65. -/
theorem m_bestAgain {l : List Pn} {ll : List (List Int)} {k drop : Int} {b : Rc} (h : abest l ll k drop = some b) : grOk l ll b = true ∧ abest (recL ll b l) ll k drop = some rlow := by
  obtain ⟨h1, h2, k1, k2, g1, g2, g3⟩ := abest_some h
  have hg : grOk l ll b = true := gr_parts.2 ⟨h1, g1⟩
  have hy := recL_ok hg
  refine ⟨hg, abest_low hy h2 k1 k2 ?_⟩
  rw [adrop_at (ad_parts.2 ⟨hg, k1, k2⟩)] at g2
  rw [adrop_at (ad_parts.2 ⟨gr_parts.2 ⟨hy, rlow_ok h2⟩, k1, k2⟩), recL_key]; exact g2
/-- P66. -/
theorem m_anonJoin {l : List Pn} {ll : List (List Int)} {r : Rc} {k : Int} (h : aok l ll r k = true) : 0 ≤ gleast l ll r ∧ (2 * l.length ≤ 40 → aok (l ++ l) ll r k = true ∧ (2 * k ≤ 40 → aok (l ++ l) ll r (2 * k) = true)) := by
  obtain ⟨ha, hd⟩ := aok_iff.1 h
  obtain ⟨hg, k1, k2⟩ := ad_parts.1 ha
  refine ⟨by rw [gleast_at hg]; omega, fun hl => ?_⟩
  have hg2 := gr_app hg (okL_mem (gr_parts.1 hg).1) (show (l ++ l).length ≤ 40 by rw [List.length_append]; omega)
  refine ⟨aok_iff.2 ⟨ad_parts.2 ⟨hg2, k1, k2⟩, by rw [keysOf_app]; exact drop_join hd⟩, fun hk => aok_iff.2 ⟨ad_parts.2 ⟨hg2, by omega, hk⟩, by rw [keysOf_app, drop_twice, hd]⟩⟩
/-- P67. -/
theorem m_keepLess {l : List Pn} {ll : List (List Int)} {r : Rc} {k : Int} (h : adOk l ll r k = true) (hk : k < 40) :
    adOk l ll r (k + 1) = true ∧ adOk (akeep l ll r k) ll rlow (k + 1) = true ∧ akeep (akeep l ll r k) ll rlow (k + 1) = akeep l ll r (k + 1) ∧ (akeep l ll r (k + 1)).length ≤ (akeep l ll r k).length := by
  obtain ⟨h1, h0, k1, k2⟩ := ad_keep h
  obtain ⟨hg, _, _⟩ := ad_parts.1 h
  have ha : adOk l ll r (k + 1) = true := ad_parts.2 ⟨hg, by omega, by omega⟩
  have e : akeep (akeep l ll r k) ll rlow (k + 1) = akeep l ll r (k + 1) := by
    rw [akeep_low h1 h0 (by omega) (by omega), akeep_at h, akeep_at ha, keepP_keep _ (by omega)]
  refine ⟨ha, ad_parts.2 ⟨gr_parts.2 ⟨h1, rlow_ok h0⟩, by omega, by omega⟩, e, ?_⟩
  have := akeep_len (akeep l ll r k) ll rlow (k + 1)
  rwa [e] at this
/-- P68. -/
theorem m_bestOk {l : List Pn} {ll : List (List Int)} {k drop : Int} {b : Rc} (h : abest l ll k drop = some b) : abest l ll k 0 = none ∨ ∃ x, abest l ll k 0 = some x ∧ aok l ll x k = true ∧ acost ll b ≤ acost ll x := by
  obtain ⟨h1, h2, k1, k2, g1, g2, g3⟩ := abest_some h
  cases hx : abest l ll k 0 with
  | none => exact .inl rfl
  | some x =>
    right
    obtain ⟨_, _, _, _, x1, x2, _⟩ := abest_some hx
    have hgx : grOk l ll x = true := gr_parts.2 ⟨h1, x1⟩
    have hgb : grOk l ll b = true := gr_parts.2 ⟨h1, g1⟩
    have hax := ad_parts.2 ⟨hgx, k1, k2⟩
    rw [adrop_at (ad_parts.2 ⟨hgb, k1, k2⟩)] at g2
    have hx0 : adrop l ll x k = 0 := by rw [adrop_at hax] at x2 ⊢; omega
    exact ⟨x, rfl, by unfold aok; rw [hx0]; rfl, g3 x x1 (by omega)⟩
end Go.Proofs.Ytaaljmmnfgghfaa
