/- What the laws of codes say of all ladders: reckoned over all of them. -/
import Derived.Test.YtbngajmpeepnmaaL0
namespace Go.Proofs.Ytbngajmpeepnmaa
theorem codeOk_in {ll : List (List Int)} {l x : Int} (h : codeOk ll l x = true) : ladOk ll = true ∧ 0 ≤ l ∧ l ≤ ll.length ∧ 0 ≤ x ∧ x ≤ 3 := by
  simp only [codeOk, in3, Bool.and_eq_true, decide_eq_true_eq] at h
  exact ⟨h.1.1, h.1.2.1, h.1.2.2, h.2.1, h.2.2⟩
def pCode (ll : List (List Int)) (l x : Int) : Bool :=
  let y := lcode ll l x
  decide (0 ≤ y) && decide (y ≤ x) && codeOk ll l y && decide (lcode ll l y = y) && (codeOk ll (l + 1) x == decide (l < ll.length)) && (codeOk ll (l + 1) y == decide (l < ll.length)) && decide (lcode ll (l + 1) x = lcode ll (l + 1) y)
set_option maxRecDepth 100000 in
theorem pCode_all : (lads.all fun ll => (nats (ll.length + 1)).all fun l => (nats 4).all fun c => pCode ll l c) = true := by decide +kernel
theorem m_code {ll : List (List Int)} {l x : Int} (h : codeOk ll l x = true) :
    0 ≤ lcode ll l x ∧ lcode ll l x ≤ x ∧ codeOk ll l (lcode ll l x) = true ∧ lcode ll l (lcode ll l x) = lcode ll l x ∧ codeOk ll (l + 1) x = decide (l < ll.length) ∧ codeOk ll (l + 1) (lcode ll l x) = decide (l < ll.length) ∧
      lcode ll (l + 1) x = lcode ll (l + 1) (lcode ll l x) := by
  obtain ⟨h0, h1, h2, h3, h4⟩ := codeOk_in h
  have := by_all pCode pCode_all h0 h1 h2 h3 h4
  simpa [pCode, and_assoc] using this
def pSame (ll : List (List Int)) (l x : Int) : Bool :=
  codeOk ll ll.length x && (nats 4).all fun d => codeOk ll l d && codeOk ll ll.length d && decide (lcode ll l d = lcode ll l x → lcode ll ll.length d = lcode ll ll.length x)
set_option maxRecDepth 100000 in
theorem pSame_all : (lads.all fun ll => (nats (ll.length + 1)).all fun l => (nats 4).all fun c => pSame ll l c) = true := by decide +kernel
theorem m_same {ll : List (List Int)} {l x : Int} (h : codeOk ll l x = true) :
    codeOk ll ll.length x = true ∧ ∀ d : Nat, d < 4 → codeOk ll l d = true ∧ codeOk ll ll.length d = true ∧ (lcode ll l d = lcode ll l x → lcode ll ll.length d = lcode ll ll.length x) := by
  obtain ⟨h0, h1, h2, h3, h4⟩ := codeOk_in h
  have hp := by_all pSame pSame_all h0 h1 h2 h3 h4
  simp only [pSame, Bool.and_eq_true, List.all_eq_true, decide_eq_true_eq] at hp
  exact ⟨hp.1, fun d hd => by have := hp.2 d (nats_mem (by omega) (by omega)); exact ⟨this.1.1, this.1.2, this.2⟩⟩
def pLeast (ll : List (List Int)) (l x : Int) : Bool :=
  let y := lcode ll l x
  (nats (l.toNat + 1)).all fun k => codeOk ll k y && decide (lcode ll k y ≤ y)
set_option maxRecDepth 100000 in
theorem pLeast_all : (lads.all fun ll => (nats (ll.length + 1)).all fun l => (nats 4).all fun c => pLeast ll l c) = true := by decide +kernel
theorem m_least {ll : List (List Int)} {l x : Int} (h : codeOk ll l x = true) (k : Nat) (hk : (k : Int) ≤ l) : codeOk ll k (lcode ll l x) = true ∧ lcode ll k (lcode ll l x) ≤ lcode ll l x := by
  obtain ⟨h0, h1, h2, h3, h4⟩ := codeOk_in h
  have hp := by_all pLeast pLeast_all h0 h1 h2 h3 h4
  simp only [pLeast, Bool.and_eq_true, List.all_eq_true, decide_eq_true_eq] at hp
  exact hp k (nats_mem (by omega) (by omega))
def pFirst (ll : List (List Int)) (l x : Int) : Bool :=
  let y := lcode ll l x
  codeOk (ll.take l.toNat) l x && decide (lcode (ll.take l.toNat) l x = y) && (codeOk (ll ++ [[0, 0, 0, 0]]) l x == decide (ll.length < 3)) && (!decide (ll.length < 3) || decide (lcode (ll ++ [[0, 0, 0, 0]]) l x = y))
set_option maxRecDepth 100000 in
theorem pFirst_all : (lads.all fun ll => (nats (ll.length + 1)).all fun l => (nats 4).all fun c => pFirst ll l c) = true := by decide +kernel
theorem m_first {ll : List (List Int)} {l x : Int} (h : codeOk ll l x = true) :
    codeOk (ll.take l.toNat) l x = true ∧ lcode (ll.take l.toNat) l x = lcode ll l x ∧ codeOk (ll ++ [[0, 0, 0, 0]]) l x = decide (ll.length < 3) ∧ (ll.length < 3 → lcode (ll ++ [[0, 0, 0, 0]]) l x = lcode ll l x) := by
  obtain ⟨h0, h1, h2, h3, h4⟩ := codeOk_in h
  have hp := by_all pFirst pFirst_all h0 h1 h2 h3 h4
  simp only [pFirst, Bool.and_eq_true, Bool.or_eq_true, Bool.not_eq_true', decide_eq_true_eq, decide_eq_false_iff_not, beq_iff_eq] at hp
  exact ⟨hp.1.1.1, hp.1.1.2, hp.1.2, fun h => hp.2.resolve_left (fun k => k h)⟩
def freshTo (ll : List (List Int)) (l : Int) (c d : Nat) : Bool := (List.range d).all fun j => decide (lcode ll l j ≠ lcode ll l c)
def freshMany (ll : List (List Int)) (l : Int) (k : Nat) : Int := (((List.range k).filter fun c => freshTo ll l c c).length : Nat)
def pGroups (ll : List (List Int)) (l _x : Int) : Bool :=
  let g := lgroups ll l
  in3 g 1 4 && (decide (0 < l) || decide (g = 4)) && decide (lgroups ll (l + 1) ≤ g) && decide (freshMany ll l 4 = g) && (nats 4).all fun c => codeOk ll l c
set_option maxRecDepth 100000 in
theorem pGroups_all : (lads.all fun ll => (nats (ll.length + 1)).all fun l => (nats 4).all fun c => pGroups ll l c) = true := by decide +kernel
theorem lgroups_in {ll : List (List Int)} {l : Int} (h : 0 ≤ lgroups ll l) : ladOk ll = true ∧ 0 ≤ l ∧ l ≤ ll.length := by
  unfold lgroups at h
  split at h
  · rename_i hg
    simp only [groupOk, in3, Bool.and_eq_true, decide_eq_true_eq] at hg
    exact ⟨hg.1, hg.2.1, hg.2.2⟩
  · omega
theorem m_groups {ll : List (List Int)} {l : Int} (h : 0 ≤ lgroups ll l) :
    1 ≤ lgroups ll l ∧ lgroups ll l ≤ 4 ∧ (0 < l ∨ lgroups ll l = 4) ∧ lgroups ll (l + 1) ≤ lgroups ll l ∧ freshMany ll l 4 = lgroups ll l ∧ ∀ c : Nat, c < 4 → codeOk ll l c = true := by
  obtain ⟨h0, h1, h2⟩ := lgroups_in h
  have hp := by_all pGroups pGroups_all h0 h1 h2 (c := 0) (by omega) (by omega)
  simp only [pGroups, in3, Bool.and_eq_true, Bool.or_eq_true, List.all_eq_true, decide_eq_true_eq] at hp
  exact ⟨hp.1.1.1.1.1, hp.1.1.1.1.2, hp.1.1.1.2, hp.1.1.2, hp.1.2, fun c hc => hp.2 c (nats_mem (by omega) (by omega))⟩
end Go.Proofs.Ytbngajmpeepnmaa
