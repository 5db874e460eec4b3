import Derived.Test.YtjgohakiodcjmaaRows
import Derived.Test.YtjgohakiodcjmaaEA
import Derived.WalkKit
import Derived.ProofKit
import Derived.OpenShut
import Derived.ShutString
import Derived.ChangeOld
import Derived.Below
import Derived.Deep.Slices
import Derived.Deep.Fields
import Derived.Lib.SmallJoins
namespace Go.Proofs.Ytjgohakiodcjmaa
open Go.ChangeShapes Go.WideShapes Go.ChangeAt Go.RowKit Go.Deep Go.Joins
theorem own : ownKnob Try.prog.godebug = none := by kernel_rfl
theorem laidOut : laidOutB Try.prog = true := by kernel_rfl
theorem cellsLP : Try.prog.cellsOf 84 = 4 := by kernel_rfl
instance : Inhabited Pn := ⟨pz⟩
section
variable {H : Type} {enc : TypeId × Value → H} {W : World} {spare : Nat → Bool} {held : Bool} {fuel : Nat}
/-- The four numbers of one person that reads. -/
theorem person_of_cells {fs : Array Field} {cs : List Value} {x : DataW H × List MemPlace} (hs : Try.prog.underlying 84 = some (.struct fs)) (hone : oneCellFields Try.prog fs = true)
    (hfs : fs.toList.map (·.type) = [3, 3, 3, 3])
    (h : DataW.trod enc Try.prog W 0 spare held fuel 84 cs = some x) : ∃ p : Pn, cs = p.cells := by
  obtain ⟨xs, n, _, _, hlen, _, hf⟩ := DataW.trod_struct hs h
  rw [cellsLP] at hlen
  have hsz : fs.toList.length = 4 := by have := congrArg List.length hfs; simpa using this
  have key : ∀ i, i < 4 → ∃ k : Int, cs[i]? = some (.int .i64 k) := by
    intro i hi
    have hi2 : i < fs.size := by have : fs.size = 4 := by simpa using hsz
                                 omega
    obtain ⟨ho, hk⟩ := hone_of hone i fs[i] (Array.getElem?_eq_getElem hi2)
    have h1 := hf i fs[i] (Array.getElem?_eq_getElem hi2)
    have ht : fs[i].type = 3 := by
      have e := congrArg (fun l => l[i]?) hfs
      simp only [List.getElem?_map, Array.getElem?_toList, Array.getElem?_eq_getElem hi2, Option.map_some] at e
      rcases (show i = 0 ∨ i = 1 ∨ i = 2 ∨ i = 3 by omega) with rfl | rfl | rfl | rfl <;> simpa using e
    rw [ho, hk, ht] at h1
    have hone1 : (cs.drop i).take 1 = [cs[i]'(by omega)] := by
      rw [List.drop_eq_getElem_cons (by omega)]; rfl
    rw [hone1] at h1
    rcases hx : xs[i]? with _ | y
    · rw [hx] at h1
      have : i < xs.length := by omega
      rw [List.getElem?_eq_getElem this] at hx; cases hx
    · rw [hx] at h1
      obtain ⟨k, hk, _⟩ := DataW.trod_int Try.underlying3 h1
      injection hk with hk
      exact ⟨k, by rw [List.getElem?_eq_getElem (by omega), hk]⟩
  match cs, hlen, key with
  | [v0, v1, v2, v3], _, key =>
    obtain ⟨k0, h0⟩ := key 0 (by omega)
    obtain ⟨k1, h1⟩ := key 1 (by omega)
    obtain ⟨k2, h2⟩ := key 2 (by omega)
    obtain ⟨k3, h3⟩ := key 3 (by omega)
    simp at h0 h1 h2 h3
    exact ⟨⟨k0, k1, k2, k3⟩, by simp [Pn.cells, h0, h1, h2, h3]⟩
theorem people_of_trod' {fs : Array Field} {a : Option Addr} {len cap : Nat} {x : DataW H × List MemPlace} (hs : Try.prog.underlying 84 = some (.struct fs)) (hone : oneCellFields Try.prog fs = true)
    (hfs : fs.toList.map (·.type) = [3, 3, 3, 3]) (h : DataW.trod enc Try.prog W 0 spare held fuel 45 [.slice a len cap] = some x) :
    ∃ l : List Pn, l.length = len ∧ len ≤ cap ∧ cap ≤ maxLen ∧ Row W W.heap.size a (pcells l) := by
  rcases open_slice Try.underlying45 h with ⟨hcs, _⟩ | ⟨ad, len', cap', m, n, D, Pl, hcs, _, hl, hm, hmm, _, hi⟩
  · simp at hcs
    obtain ⟨rfl, rfl, rfl⟩ := hcs
    exact ⟨[], rfl, Nat.le_refl _, by simp [maxLen], .inl rfl⟩
  · simp at hcs
    obtain ⟨rfl, rfl, rfl⟩ := hcs
    have hlm : len ≤ m := by rw [hmm]; split <;> omega
    have hp : ∀ i, i < len → ∃ p : Pn, ∀ j u, p.cells[j]? = some u → W.cell? (ad.add (i * 4 + j)) = some u := by
      intro i hil
      obtain ⟨cs', hc, ht⟩ := hi i (by omega)
      rw [cellsLP] at hc
      obtain ⟨p, rfl⟩ := person_of_cells hs hone hfs ht
      obtain ⟨_, _, hat⟩ := World.cells?_some hc
      refine ⟨p, fun j u hu => ?_⟩
      have hj : j < 4 := by have := (List.getElem?_eq_some_iff.1 hu).1; simpa [Pn.cells] using this
      rw [← add_add, hat j hj]; exact hu
    obtain ⟨f, hf⟩ := choose_lt hp
    refine ⟨(List.range len).map f, by simp, hl, hm, ?_⟩
    by_cases h0 : len = 0
    · left; subst h0; rfl
    · right
      obtain ⟨b, o, spot⟩ := ad
      have hc0 := hf 0 (by omega) 0 _ rfl
      have hspot : spot = none := by simpa [Addr.add] using World.cell?_spot hc0
      subst hspot
      refine ⟨b, o, rfl, ?_, fun j u hu => ?_⟩
      · have := block_lt_of_cell hc0
        simpa [Addr.add] using this
      · have hjl : j < len * 4 := by have := (List.getElem?_eq_some_iff.1 hu).1; rw [pcells_length] at this; simpa using this
        have e : j = j / 4 * 4 + j % 4 := by omega
        have hq : j / 4 < ((List.range len).map f).length := by simp; omega
        have hg := pcells_get _ (j / 4) hq (j % 4) (Nat.mod_lt _ (by omega))
        rw [← e] at hg
        rw [hg] at hu
        have := hf (j / 4) (by omega) (j % 4) u (by simpa using hu)
        rw [← e, Addr.add_lit] at this
        exact this
theorem people_of_trod {fs : Array Field} {a : Option Addr} {len cap : Nat} {x : DataW H × List MemPlace} (hs : Try.prog.underlying 84 = some (.struct fs)) (hone : oneCellFields Try.prog fs = true)
    (hfs : fs.toList.map (·.type) = [3, 3, 3, 3]) (h : DataW.trod enc Try.prog W 0 spare held fuel 45 [.slice a len cap] = some x) :
    ∃ l : List Pn, l.length = len ∧ len ≤ cap ∧ len ≤ maxLen ∧ Row W W.heap.size a (pcells l) := by
  obtain ⟨l, h1, h2, h3, h4⟩ := people_of_trod' hs hone hfs h
  exact ⟨l, h1, h2, Nat.le_trans h2 h3, h4⟩
theorem isP_of_trod {fs : Array Field} {a : Option Addr} {len cap : Nat} {x : DataW H × List MemPlace} (hs : Try.prog.underlying 84 = some (.struct fs)) (hone : oneCellFields Try.prog fs = true)
    (hfs : fs.toList.map (·.type) = [3, 3, 3, 3]) (h : DataW.trod enc Try.prog W 0 spare held fuel 45 [.slice a len cap] = some x) : ∃ l, IsP W (.slice a len cap) l := by
  obtain ⟨l, rfl, h2, h3, h4⟩ := people_of_trod' hs hone hfs h
  exact ⟨l, a, cap, rfl, h2, h3, h4⟩
end
end Go.Proofs.Ytjgohakiodcjmaa
