/- Bounds of hidden cells: rings of places. Mathematics alone. Bounds of hidden cells: the search for a ring. Mathematics alone. -/
import Derived.Test.YtobgceebolmfcaaDoorBMA
namespace Go.Proofs.YtobgceebolmfcaaDoor
/-- A visit: a row, a column, a direction. -/
structure Vt where
  r : Nat
  c : Nat
  s : Int
/-- a was reached from b, in a ring that begins with the direction s0. -/
def Lnk (s0 : Int) (a b : Vt) : Prop := a.s = - b.s ∧ (if b.s = s0 then a.c = b.c else a.r = b.r)
/-- From a visit back to the beginning. -/
def Chn (s0 : Int) (b0 : Vt) : List Vt → Prop
  | [] => False
  | [v] => v = b0
  | a :: b :: l => Lnk s0 a b ∧ Chn s0 b0 (b :: l)
/-- What the visits change, by e each. -/
def adR (e : Int) (k : Nat) : List Vt → Int
  | [] => 0
  | v :: l => (if v.r = k then v.s * e else 0) + adR e k l
def adC (e : Int) (k : Nat) : List Vt → Int
  | [] => 0
  | v :: l => (if v.c = k then v.s * e else 0) + adC e k l
def ad (e : Int) (k c : Nat) : List Vt → Int
  | [] => 0
  | v :: l => (if k = v.r ∧ c = v.c then v.s * e else 0) + ad e k c l
/-- The table behind the change. -/
def chg (e : Int) (l : List Vt) (x : Tf) : Tf := fun k c => x k c + ad e k c l
theorem chg_nil (e : Int) (x : Tf) : chg e [] x = x := by funext k c; simp [chg, ad]
theorem ad_snoc (e : Int) (k c : Nat) (v : Vt) : ∀ l : List Vt, ad e k c (l ++ [v]) = ad e k c l + (if k = v.r ∧ c = v.c then v.s * e else 0)
  | [] => by simp [ad]
  | a :: l => by rw [List.cons_append, ad, ad, ad_snoc e k c v l]; omega
theorem chg_snoc (e : Int) (l : List Vt) (v : Vt) (x : Tf) : chg e (l ++ [v]) x = up1 (chg e l x) v.r v.c (v.s * e) := by
  funext k c
  simp only [chg, up1, ad_snoc]
  split <;> omega
theorem sm_ite {n : Nat} {a : Nat} (ha : a < n) (y : Int) : sm n (fun i => if i = a then y else 0) = y := by
  have h := sm_at ha (fun _ => 0) y
  rw [sm_zero] at h
  rw [← sm_congr (f := fun i => if i = a then 0 + y else 0) fun i _ => by split <;> omega, h]; omega
section
variable {q d : Nat} {h : Nat → Nat → Bool} {x : Tf} {s0 e : Int} {b0 : Vt}
theorem ad_row (k : Nat) : ∀ l : List Vt, (∀ v ∈ l, v.c < d) → sm d (fun c => ad e k c l) = adR e k l
  | [], _ => sm_zero d
  | v :: l, hl => by
    simp only [ad, adR]
    rw [sm_add, ad_row k l fun v hv => hl v (List.mem_cons_of_mem _ hv)]
    congr 1
    by_cases hk : v.r = k
    · rw [if_pos hk]
      exact (sm_congr fun c _ => by simp [hk]).trans (sm_ite (hl v List.mem_cons_self) (v.s * e))
    · rw [if_neg hk, sm_congr (g := fun _ => 0) fun c _ => if_neg fun hh => hk hh.1.symm, sm_zero]
theorem ad_col (c : Nat) : ∀ l : List Vt, (∀ v ∈ l, v.r < q) → sm q (fun k => ad e k c l) = adC e c l
  | [], _ => sm_zero q
  | v :: l, hl => by
    simp only [ad, adC]
    rw [sm_add, ad_col c l fun v hv => hl v (List.mem_cons_of_mem _ hv)]
    congr 1
    by_cases hk : v.c = c
    · rw [if_pos hk]
      exact (sm_congr fun k _ => by simp [hk]).trans (sm_ite (hl v List.mem_cons_self) (v.s * e))
    · rw [if_neg hk, sm_congr (g := fun _ => 0) fun k _ => if_neg fun hh => hk hh.2.symm, sm_zero]
/-- The sums of a chain: open at its beginning and at its end. -/
theorem chn_sums (hs : b0.s = s0) (h0 : s0 ≠ 0) : ∀ (l : List Vt) (a : Vt), Chn s0 b0 (a :: l) → (a.s = s0 ∧ (∀ k, adR e k (a :: l) = if b0.r = k then s0 * e else 0) ∧ ∀ c, adC e c (a :: l) = if a.c = c then s0 * e else 0) ∨
    (a.s = -s0 ∧ (∀ k, adR e k (a :: l) = (if b0.r = k then s0 * e else 0) - if a.r = k then s0 * e else 0) ∧ ∀ c, adC e c (a :: l) = 0)
  | [], a, hc => by
    have ha : a = b0 := hc
    subst ha
    refine .inl ⟨hs, fun k => ?_, fun c => ?_⟩ <;> simp [adR, adC, hs]
  | b :: l, a, hc => by
    obtain ⟨⟨h1, h2⟩, h3⟩ := hc
    have neg : (-s0) * e = -(s0 * e) := Int.neg_mul _ _
    rcases chn_sums hs h0 l b h3 with ⟨hb, hr, hcl⟩ | ⟨hb, hr, hcl⟩
    · rw [if_pos hb] at h2
      rw [hb] at h1
      refine .inr ⟨h1, fun k => ?_, fun c => ?_⟩
      · rw [adR, hr k, h1, neg]; split <;> split <;> omega
      · rw [adC, hcl c, h1, neg, h2]; split <;> omega
    · have hne : b.s ≠ s0 := by omega
      rw [if_neg hne] at h2
      have h1' : a.s = s0 := by omega
      refine .inl ⟨h1', fun k => ?_, fun c => ?_⟩
      · rw [adR, hr k, h1', h2]; split <;> split <;> omega
      · rw [adC, hcl c, h1']; split <;> omega
/-- Two visits of other places. -/
def Apt (a b : Vt) : Prop := ¬ (a.r = b.r ∧ a.c = b.c)
/-- A ring, given by its last visit. -/
structure Rng (q d : Nat) (h : Nat → Nat → Bool) (x : Tf) (i j : Nat) (s0 : Int) (l : List Vt) : Prop where
  chn : Chn s0 ⟨i, j, s0⟩ l
  ins : ∀ v ∈ l, v.r < q ∧ v.c < d ∧ h v.r v.c = true ∧ 0 ≤ x v.r v.c + v.s ∧ (v.s = 1 ∨ v.s = -1)
  apt : l.Pairwise Apt
  fin : ∀ v, l.head? = some v → v.s ≠ s0 ∧ v.r = i
/-- The most that the visits can change. -/
def mst (x : Tf) (l : List Vt) : Int := l.foldl (fun m v => if v.s = -1 then min m (x v.r v.c) else m) 396
theorem mst_snoc (x : Tf) (l : List Vt) (v : Vt) : mst x (l ++ [v]) = if v.s = -1 then min (mst x l) (x v.r v.c) else mst x l := by simp [mst, List.foldl_append]
theorem fold_le (x : Tf) : ∀ (l : List Vt) (m : Int), l.foldl (fun m v => if v.s = -1 then min m (x v.r v.c) else m) m ≤ m
  | [], m => Int.le_refl _
  | v :: l, m => by
    have := fold_le x l (if v.s = -1 then min m (x v.r v.c) else m)
    simp only [List.foldl_cons]
    split at this <;> simp_all <;> omega
theorem mst_le {x : Tf} {l : List Vt} : ∀ v ∈ l, v.s = -1 → mst x l ≤ x v.r v.c := by
  suffices h : ∀ (l : List Vt) (m : Int), ∀ v ∈ l, v.s = -1 → l.foldl (fun m v => if v.s = -1 then min m (x v.r v.c) else m) m ≤ x v.r v.c from h l 396
  intro l
  induction l with
  | nil => intro m v hv; cases hv
  | cons a l ih =>
    intro m v hv hs
    simp only [List.foldl_cons]
    rcases List.mem_cons.1 hv with rfl | hv
    · rw [if_pos hs]
      have := fold_le x l (min m (x v.r v.c))
      omega
    · exact ih _ v hv hs
theorem mst_one {x : Tf} {l : List Vt} (hl : ∀ v ∈ l, v.s = -1 → 1 ≤ x v.r v.c) : 1 ≤ mst x l ∧ mst x l ≤ 396 := by
  refine ⟨?_, fold_le x l 396⟩
  suffices h : ∀ (l : List Vt) (m : Int), 1 ≤ m → (∀ v ∈ l, v.s = -1 → 1 ≤ x v.r v.c) → 1 ≤ l.foldl (fun m v => if v.s = -1 then min m (x v.r v.c) else m) m from h l 396 (by omega) hl
  intro l
  induction l with
  | nil => intro m hm _; exact hm
  | cons a l ih =>
    intro m hm hl
    simp only [List.foldl_cons]
    refine ih _ ?_ fun v hv => hl v (List.mem_cons_of_mem _ hv)
    split
    · rename_i hs
      have := hl a List.mem_cons_self hs
      omega
    · exact hm
theorem mst_bd {x : Tf} {l : List Vt} (hl : ∀ v ∈ l, v.s = -1 → 1 ≤ x v.r v.c) (p r : List Vt) (h : l = p ++ r) : 1 ≤ mst x p ∧ mst x p ≤ 396 := mst_one fun v hv => hl v (by rw [h]; exact List.mem_append_left _ hv)
/-- A place is met once at most. -/
theorem ad_zero {k c : Nat} : ∀ l : List Vt, (∀ v ∈ l, ¬ (k = v.r ∧ c = v.c)) → ad e k c l = 0
  | [], _ => rfl
  | v :: l, hl => by rw [ad, if_neg (hl v List.mem_cons_self), ad_zero l fun u hu => hl u (List.mem_cons_of_mem _ hu)]; rfl
theorem ad_one {k c : Nat} : ∀ l : List Vt, l.Pairwise Apt → ad e k c l = 0 ∨ ∃ v ∈ l, v.r = k ∧ v.c = c ∧ ad e k c l = v.s * e
  | [], _ => .inl rfl
  | v :: l, hp => by
    obtain ⟨h1, h2⟩ := List.pairwise_cons.1 hp
    by_cases hk : k = v.r ∧ c = v.c
    · refine .inr ⟨v, List.mem_cons_self, hk.1.symm, hk.2.symm, ?_⟩
      rw [ad, if_pos hk, ad_zero l fun u hu hh => h1 u hu ⟨hk.1.symm.trans hh.1, hk.2.symm.trans hh.2⟩]; omega
    · rcases ad_one l h2 with h3 | ⟨u, hu, h3, h4, h5⟩
      · left; rw [ad, if_neg hk, h3]; rfl
      · exact .inr ⟨u, List.mem_cons_of_mem _ hu, h3, h4, by rw [ad, if_neg hk, h5]; omega⟩
theorem ad_at {v : Vt} : ∀ l : List Vt, l.Pairwise Apt → v ∈ l → ad e v.r v.c l = v.s * e
  | [], _, hv => by cases hv
  | a :: l, hp, hv => by
    obtain ⟨h1, h2⟩ := List.pairwise_cons.1 hp
    rcases List.mem_cons.1 hv with rfl | hv
    · rw [ad, if_pos ⟨rfl, rfl⟩, ad_zero l fun u hu hh => h1 u hu hh]; omega
    · rw [ad, if_neg fun hh => h1 v hv ⟨hh.1.symm, hh.2.symm⟩, ad_at l h2 hv]; omega
theorem chn_last : ∀ l : List Vt, Chn s0 b0 l → b0 ∈ l
  | [], hc => hc.elim
  | [v], hc => by have : v = b0 := hc; simp [this]
  | _ :: b :: l, hc => List.mem_cons_of_mem _ (chn_last (b :: l) hc.2)
/-- A ring's change fits. -/
theorem Rng.fit {i j : Nat} {l : List Vt} (g : Rng q d h x i j s0 l) (hx : Pos q d x) (hs : s0 = 1 ∨ s0 = -1) : FitF q d h x (chg (mst x l) l x) ∧ chg (mst x l) l x i j = x i j + s0 * mst x l ∧ 1 ≤ mst x l ∧ mst x l ≤ 396 := by
  have hm := mst_one (x := x) (l := l) fun v hv hvs => by have := (g.ins v hv).2.2.2.1; omega
  refine ⟨⟨fun k c hk hc => ?_, fun k hk => ?_, fun c hc => ?_, fun k c hk hc hf => ?_⟩, ?_, hm⟩
  · have h0 := hx k c hk hc
    unfold chg
    rcases ad_one (e := mst x l) (k := k) (c := c) l g.apt with h1 | ⟨v, hv, rfl, rfl, h1⟩
    · rw [h1]; omega
    · rw [h1]
      rcases (g.ins v hv).2.2.2.2 with h2 | h2
      · rw [h2]; omega
      · have := mst_le (x := x) v hv h2
        rw [h2]; omega
  · have e1 : sm d (chg (mst x l) l x k) = sm d (x k) + sm d (fun c => ad (mst x l) k c l) := sm_add _ _ _
    rw [e1, ad_row k l fun v hv => (g.ins v hv).2.1]
    cases l with
    | nil => simp [adR]
    | cons a l =>
      have hf := g.fin a rfl
      rcases chn_sums (s0 := s0) (b0 := ⟨i, j, s0⟩) (e := mst x (a :: l)) rfl (by omega) l a g.chn with ⟨h1, _⟩ | ⟨_, h2, _⟩
      · exact absurd h1 hf.1
      · rw [h2, hf.2]
        show sm d (x k) + ((if i = k then s0 * mst x (a :: l) else 0) - if i = k then s0 * mst x (a :: l) else 0) = _
        omega
  · have e1 : sm q (fun k => chg (mst x l) l x k c) = sm q (fun k => x k c) + sm q (fun k => ad (mst x l) k c l) := sm_add _ _ _
    rw [e1, ad_col c l fun v hv => (g.ins v hv).1]
    cases l with
    | nil => simp [adC]
    | cons a l =>
      have hf := g.fin a rfl
      rcases chn_sums (s0 := s0) (b0 := ⟨i, j, s0⟩) (e := mst x (a :: l)) rfl (by omega) l a g.chn with ⟨h1, _⟩ | ⟨_, _, h2⟩
      · exact absurd h1 hf.1
      · rw [h2]; omega
  · unfold chg
    rw [ad_zero l fun v hv hh => by have := (g.ins v hv).2.2.1; rw [← hh.1, ← hh.2, hf] at this; cases this]; omega
  · unfold chg
    rw [ad_at (v := ⟨i, j, s0⟩) l g.apt (chn_last l g.chn)]
end
end Go.Proofs.YtobgceebolmfcaaDoor
namespace Go.Proofs.YtobgceebolmfcaaDoor
/-- A visit in its block, and the visits behind it, back to the beginning. -/
structure Nd where
  blk : Nat
  v : Vt
  rest : List (Nat × Vt)
def Nd.chain (n : Nd) : List (Nat × Vt) := (n.blk, n.v) :: n.rest
def vs (l : List (Nat × Vt)) : List Vt := l.map Prod.snd
/-- A place that may be visited. -/
def Ins (q d : Nat) (h : Nat → Nat → Bool) (x : Tf) (v : Vt) : Prop := v.r < q ∧ v.c < d ∧ h v.r v.c = true ∧ 0 ≤ x v.r v.c + v.s ∧ (v.s = 1 ∨ v.s = -1)
/-- Does the ring go on from v to (k, c)? -/
def Onw (s0 : Int) (v : Vt) (k c : Nat) : Prop := if v.s = s0 then c = v.c else k = v.r
/-- A search for a ring: what has been visited. -/
structure Sr (q d : Nat) (h : Nat → Nat → Bool) (x : Tf) (i j : Nat) (s0 : Int) (ns : List Nd) (sn : Nat → Nat → Bool) : Prop where
  chn : ∀ n ∈ ns, Chn s0 ⟨i, j, s0⟩ (vs n.chain)
  ins : ∀ n ∈ ns, ∀ v ∈ vs n.chain, Ins q d h x v ∧ sn v.r v.c = true
  pw : ∀ n ∈ ns, (vs n.chain).Pairwise Apt
  par : ∀ n ∈ ns, (n.rest = [] ∧ n.v = ⟨i, j, s0⟩) ∨ ∃ p ∈ ns, n.rest = p.chain
  apt : ns.Pairwise fun a b => Apt a.v b.v
  sn : ∀ k c, k < q → c < d → (sn k c = true ↔ ∃ n ∈ ns, n.v.r = k ∧ n.v.c = c)
  beg : ∃ n ∈ ns, n.v = ⟨i, j, s0⟩
/-- A visit from which all has been looked at. -/
def Dne (q d : Nat) (h : Nat → Nat → Bool) (x : Tf) (i : Nat) (s0 : Int) (sn : Nat → Nat → Bool) (n : Nd) : Prop :=
  ¬ (n.v.s ≠ s0 ∧ n.v.r = i) ∧ ∀ k c, k < q → c < d → Onw s0 n.v k c → h k c = true → 0 ≤ x k c + -n.v.s → sn k c = true
section
variable {q d : Nat} {h : Nat → Nat → Bool} {x : Tf} {i j : Nat} {s0 : Int} {ns : List Nd} {sn sn' : Nat → Nat → Bool}
theorem Sr.start (b : Nat) (hv : Ins q d h x ⟨i, j, s0⟩) (hsn : ∀ k c, k < q → c < d → (sn k c = true ↔ k = i ∧ c = j)) : Sr q d h x i j s0 [⟨b, ⟨i, j, s0⟩, []⟩] sn := by
  have hi : i < q := hv.1
  have hj : j < d := hv.2.1
  refine ⟨fun n hn => ?_, fun n hn v hvm => ?_, fun n hn => ?_, fun n hn => ?_, by simp, fun k c hk hc => ?_, ⟨_, List.mem_singleton.2 rfl, rfl⟩⟩
  · rw [List.mem_singleton.1 hn]; rfl
  · rw [List.mem_singleton.1 hn] at hvm
    have : v = ⟨i, j, s0⟩ := by simpa [vs, Nd.chain] using hvm
    subst this
    exact ⟨hv, (hsn i j hi hj).2 ⟨rfl, rfl⟩⟩
  · rw [List.mem_singleton.1 hn]; simp [vs, Nd.chain]
  · rw [List.mem_singleton.1 hn]; exact .inl ⟨rfl, rfl⟩
  · rw [hsn k c hk hc]
    constructor
    · rintro ⟨rfl, rfl⟩; exact ⟨_, List.mem_singleton.2 rfl, rfl, rfl⟩
    · rintro ⟨n, hn, h1, h2⟩
      rw [List.mem_singleton.1 hn] at h1 h2
      exact ⟨h1.symm, h2.symm⟩
theorem Sr.head (s : Sr q d h x i j s0 ns sn) {n : Nd} (hn : n ∈ ns) : Ins q d h x n.v ∧ sn n.v.r n.v.c = true := s.ins n hn n.v (by simp [vs, Nd.chain])
theorem Sr.add (s : Sr q d h x i j s0 ns sn) {n : Nd} (hn : n ∈ ns) {k c : Nat} (b : Nat) (hk : k < q) (hc : c < d) (ho : Onw s0 n.v k c) (hf : sn k c = false) (hh : h k c = true) (h0 : 0 ≤ x k c + -n.v.s)
    (hsn : ∀ k' c', k' < q → c' < d → sn' k' c' = if k' = k ∧ c' = c then true else sn k' c') : Sr q d h x i j s0 (ns ++ [⟨b, ⟨k, c, -n.v.s⟩, n.chain⟩]) sn' := by
  have more : ∀ k' c', k' < q → c' < d → sn k' c' = true → sn' k' c' = true := fun k' c' a1 a2 a3 => by rw [hsn k' c' a1 a2]; split; rfl; exact a3
  have hns := (s.head hn).1.2.2.2.2
  have hnew : Ins q d h x ⟨k, c, -n.v.s⟩ := ⟨hk, hc, hh, h0, by show -n.v.s = 1 ∨ -n.v.s = -1; omega⟩
  refine ⟨fun m hm => ?_, fun m hm v hv => ?_, fun m hm => ?_, fun m hm => ?_, ?_, fun k' c' hk' hc' => ?_, ?_⟩
  · rcases List.mem_append.1 hm with hm | hm
    · exact s.chn m hm
    · rw [List.mem_singleton.1 hm]
      refine ⟨⟨rfl, ?_⟩, s.chn n hn⟩
      unfold Onw at ho
      exact ho
  · rcases List.mem_append.1 hm with hm | hm
    · obtain ⟨a1, a2⟩ := s.ins m hm v hv
      exact ⟨a1, more _ _ a1.1 a1.2.1 a2⟩
    · rw [List.mem_singleton.1 hm] at hv
      rcases List.mem_cons.1 (show v ∈ (⟨k, c, -n.v.s⟩ : Vt) :: vs n.chain from hv) with rfl | hv
      · exact ⟨hnew, by rw [hsn _ _ hk hc, if_pos ⟨rfl, rfl⟩]⟩
      · obtain ⟨a1, a2⟩ := s.ins n hn v hv
        exact ⟨a1, more _ _ a1.1 a1.2.1 a2⟩
  · rcases List.mem_append.1 hm with hm | hm
    · exact s.pw m hm
    · rw [List.mem_singleton.1 hm]
      refine List.pairwise_cons.2 ⟨fun v hv hh => ?_, s.pw n hn⟩
      have := (s.ins n hn v hv).2
      rw [← hh.1, ← hh.2] at this
      rw [show sn k c = true from this] at hf; cases hf
  · rcases List.mem_append.1 hm with hm | hm
    · rcases s.par m hm with h1 | ⟨p, hp, h1⟩
      · exact .inl h1
      · exact .inr ⟨p, List.mem_append_left _ hp, h1⟩
    · rw [List.mem_singleton.1 hm]
      exact .inr ⟨n, List.mem_append_left _ hn, rfl⟩
  · refine List.pairwise_append.2 ⟨s.apt, by simp, fun a ha b' hb' hh => ?_⟩
    rw [List.mem_singleton.1 hb'] at hh
    have := (s.head ha).2
    rw [hh.1, hh.2] at this
    rw [show sn k c = true from this] at hf; cases hf
  · rw [hsn k' c' hk' hc']
    constructor
    · intro h1
      split at h1
      · rename_i e; exact ⟨_, List.mem_append_right _ (List.mem_singleton.2 rfl), e.1.symm, e.2.symm⟩
      · obtain ⟨m, hm, h2⟩ := (s.sn k' c' hk' hc').1 h1
        exact ⟨m, List.mem_append_left _ hm, h2⟩
    · rintro ⟨m, hm, h1, h2⟩
      rcases List.mem_append.1 hm with hm | hm
      · split
        · rfl
        · exact (s.sn k' c' hk' hc').2 ⟨m, hm, h1, h2⟩
      · rw [List.mem_singleton.1 hm] at h1 h2
        rw [if_pos ⟨h1.symm, h2.symm⟩]
  · obtain ⟨m, hm, h1⟩ := s.beg
    exact ⟨m, List.mem_append_left _ hm, h1⟩
theorem nodup_lt : ∀ (N : Nat) (l : List Nat), l.Nodup → (∀ a ∈ l, a < N) → l.length ≤ N
  | 0, l, _, hl => by
    cases l with
    | nil => simp
    | cons a l => exact absurd (hl a List.mem_cons_self) (by omega)
  | N + 1, l, hn, hl => by
    have h1 := nodup_lt N (l.erase N) (hn.erase N) fun a ha => by
      have h2 := (hn.mem_erase_iff).1 ha
      have := hl a h2.2
      have := h2.1
      omega
    by_cases hm : N ∈ l
    · rw [List.length_erase_of_mem hm] at h1; omega
    · rw [List.erase_of_not_mem hm] at h1; omega
theorem key_inj {d r c r' c' : Nat} (hc : c < d) (hc' : c' < d) (e : r * d + c = r' * d + c') : r = r' ∧ c = c' := by
  have h1 : (r * d + c) / d = r := by rw [Nat.mul_comm, Nat.mul_add_div (by omega), Nat.div_eq_of_lt hc]; omega
  have h2 : (r' * d + c') / d = r' := by rw [Nat.mul_comm, Nat.mul_add_div (by omega), Nat.div_eq_of_lt hc']; omega
  have : r = r' := by rw [← h1, ← h2, e]
  subst this
  exact ⟨rfl, by omega⟩
theorem Sr.le (s : Sr q d h x i j s0 ns sn) : ns.length ≤ q * d := by
  have h1 := nodup_lt (q * d) (ns.map fun n => n.v.r * d + n.v.c) ?_ ?_
  · simpa using h1
  · rw [List.Nodup, List.pairwise_map]
    refine List.Pairwise.imp_of_mem (fun {a b} ha hb hab e => ?_) s.apt
    exact hab (key_inj (s.head ha).1.2.1 (s.head hb).1.2.1 e)
  · intro a ha
    obtain ⟨n, hn, rfl⟩ := List.mem_map.1 ha
    have h1 := (s.head hn).1.1
    have h2 := (s.head hn).1.2.1
    have : (n.v.r + 1) * d ≤ q * d := Nat.mul_le_mul_right d h1
    rw [Nat.add_mul] at this
    omega
theorem Sr.ring (s : Sr q d h x i j s0 ns sn) {n : Nd} (hn : n ∈ ns) (h1 : n.v.s ≠ s0) (h2 : n.v.r = i) : Rng q d h x i j s0 (vs n.chain) :=
  ⟨s.chn n hn, fun v hv => (s.ins n hn v hv).1, s.pw n hn, fun v hv => by
    have : n.v = v := by simpa [vs, Nd.chain] using hv
    subst this; exact ⟨h1, h2⟩⟩
/-- The direction of a visit; a visit that is not the first has one before it. -/
theorem Sr.dir (s : Sr q d h x i j s0 ns sn) (hs : s0 = 1 ∨ s0 = -1) {n : Nd} (hn : n ∈ ns) : n.v.s = s0 ∨ n.v.s = -s0 := by
  have := (s.head hn).1.2.2.2.2; omega
theorem Sr.before (s : Sr q d h x i j s0 ns sn) {n : Nd} (hn : n ∈ ns) (hb : n.v ≠ ⟨i, j, s0⟩) : ∃ p ∈ ns, n.v.s = -p.v.s ∧ (if p.v.s = s0 then n.v.c = p.v.c else n.v.r = p.v.r) := by
  rcases s.par n hn with ⟨_, h1⟩ | ⟨p, hp, h1⟩
  · exact absurd h1 hb
  · refine ⟨p, hp, ?_⟩
    have h2 := s.chn n hn
    rw [Nd.chain, h1] at h2
    exact h2.1
theorem Sr.key1 (s : Sr q d h x i j s0 ns sn) (hs : s0 = 1 ∨ s0 = -1) (hd : ∀ n ∈ ns, Dne q d h x i s0 sn n) {k l : Nat} (hk : k < q) (hl : l < d) (hh : h k l = true) (hn : k ≠ i ∨ l ≠ j) (h0 : 0 ≤ x k l + -s0)
    (hc : ∃ n ∈ ns, n.v.s = s0 ∧ n.v.c = l) : ∃ n ∈ ns, n.v.s ≠ s0 ∧ n.v.r = k := by
  obtain ⟨n, hnm, h1, h2⟩ := hc
  obtain ⟨u, hu, e1, e2⟩ := (s.sn k l hk hl).1 ((hd n hnm).2 k l hk hl (by unfold Onw; rw [if_pos h1]; exact h2.symm) hh (by rw [h1]; exact h0))
  by_cases e : u.v.s = s0
  · obtain ⟨p, hp, p1, p2⟩ := s.before hu (fun e3 => by rw [e3] at e1 e2; rcases hn with hn | hn; exact hn e1.symm; exact hn e2.symm)
    have hps : p.v.s ≠ s0 := by omega
    rw [if_neg hps] at p2
    exact ⟨p, hp, hps, by rw [← p2, e1]⟩
  · exact ⟨u, hu, e, e1⟩
theorem Sr.key2 (s : Sr q d h x i j s0 ns sn) (hs : s0 = 1 ∨ s0 = -1) (hd : ∀ n ∈ ns, Dne q d h x i s0 sn n) {k l : Nat} (hk : k < q) (hl : l < d) (hh : h k l = true) (h0 : 0 ≤ x k l + s0)
    (hc : ∃ n ∈ ns, n.v.s ≠ s0 ∧ n.v.r = k) : ∃ n ∈ ns, n.v.s = s0 ∧ n.v.c = l := by
  obtain ⟨n, hnm, h1, h2⟩ := hc
  have hnd := s.dir hs hnm
  obtain ⟨u, hu, e1, e2⟩ := (s.sn k l hk hl).1 ((hd n hnm).2 k l hk hl (by unfold Onw; rw [if_neg h1]; exact h2.symm) hh (by omega))
  by_cases e : u.v.s = s0
  · exact ⟨u, hu, e, e2⟩
  · obtain ⟨p, hp, p1, p2⟩ := s.before hu (fun e3 => e (by rw [e3]))
    have hud := s.dir hs hu
    have hps : p.v.s = s0 := by omega
    rw [if_pos hps] at p2
    exact ⟨p, hp, hps, by rw [← p2, e2]⟩
/-- If all that has been visited has been looked at, and there was no ring: nobody goes farther. -/
theorem Sr.high (s : Sr q d h x i j 1 ns sn) (hd : ∀ n ∈ ns, Dne q d h x i 1 sn n) (hi : i < q) (hj : j < d) (hx : Pos q d x) : ∀ z, FitF q d h x z → z i j ≤ x i j := by
  intro z hz
  have key : ∀ (p : Prop), (!@decide p (Classical.propDecidable p)) = true ↔ ¬ p := fun p => by simp
  refine cut_high hz hi hj hx (fun k => !@decide (∃ n ∈ ns, n.v.s ≠ 1 ∧ n.v.r = k) (Classical.propDecidable _)) (fun l => !@decide (∃ n ∈ ns, n.v.s = 1 ∧ n.v.c = l) (Classical.propDecidable _)) ?_ ?_ (fun k l hk hl hR hh hp hn => ?_) (fun k l hk hl hC hh => ?_)
  · refine (key _).2 ?_
    rintro ⟨n, hn, h1, h2⟩
    exact (hd n hn).1 ⟨h1, h2⟩
  · obtain ⟨n, hn, h1⟩ := s.beg
    rw [Bool.not_eq_false']
    exact @decide_eq_true _ (Classical.propDecidable _) ⟨n, hn, by rw [h1], by rw [h1]⟩
  · refine (key _).2 fun hc => (key _).1 hR (s.key1 (.inl rfl) hd hk hl hh hn (by omega) hc)
  · have := hx k l hk hl
    refine (key _).2 fun hc => (key _).1 hC (s.key2 (.inl rfl) hd hk hl hh (by omega) hc)
theorem Sr.low (s : Sr q d h x i j (-1) ns sn) (hd : ∀ n ∈ ns, Dne q d h x i (-1) sn n) (hi : i < q) (hj : j < d) (hx : Pos q d x) : ∀ z, FitF q d h x z → x i j ≤ z i j := by
  intro z hz
  have key : ∀ (p : Prop), (!@decide p (Classical.propDecidable p)) = true ↔ ¬ p := fun p => by simp
  refine cut_low hz hi hj hx (fun k => !@decide (∃ n ∈ ns, n.v.s ≠ -1 ∧ n.v.r = k) (Classical.propDecidable _)) (fun l => !@decide (∃ n ∈ ns, n.v.s = -1 ∧ n.v.c = l) (Classical.propDecidable _)) ?_ ?_ (fun k l hk hl hR hh hn => ?_) (fun k l hk hl hC hh hp => ?_)
  · refine (key _).2 ?_
    rintro ⟨n, hn, h1, h2⟩
    exact (hd n hn).1 ⟨h1, h2⟩
  · obtain ⟨n, hn, h1⟩ := s.beg
    rw [Bool.not_eq_false']
    exact @decide_eq_true _ (Classical.propDecidable _) ⟨n, hn, by rw [h1], by rw [h1]⟩
  · have := hx k l hk hl
    refine (key _).2 fun hc => (key _).1 hR (s.key1 (.inr rfl) hd hk hl hh hn (by omega) hc)
  · refine (key _).2 fun hc => (key _).1 hC (s.key2 (.inr rfl) hd hk hl hh (by omega) hc)
end
end Go.Proofs.YtobgceebolmfcaaDoor
