/-  -/
import Derived.Test.YtjgohakiodcjmaaA4
namespace Go.Proofs.Ytjgohakiodcjmaa
open Go.RowKit
def pz : Pn := ⟨0, 0, 0, 0⟩
theorem toPerson_any (p : Pn) (w : World) : Calls Try.prog 56 #[p.val] w fun e w' => e = .returned p.val ∧ Below w.heap.size w w' := by
  go_enter Try.func56, Try.ntmps56
  go_wp2
  refine bodyPost_ret (v := p.val) (by simp [results, Try.results56, go_sem]) rfl ⟨rfl, ?_⟩
  exact (((Below.refl _ _).alloc (Nat.le_refl _) _).alloc (by simp) _).alloc (by simp; omega) _
def eqP (p q : Pn) : Bool := decide (p.area = q.area) && decide (p.job = q.job) && decide (p.sex = q.sex) && decide (p.pay = q.pay)
theorem eqPerson_any (p q : Pn) (w : World) : Calls Try.prog 57 #[p.val, q.val] w fun e w' => e = .returned (.bool (eqP p q)) ∧ Below w.heap.size w w' := by
  go_enter Try.func57, Try.ntmps57
  go_wp2
  all_goals
    go_ret
    exact ⟨retb (by simp only [bne_iff_ne, ne_eq, bne_eq_false_iff_eq] at *; simp [eqP, *]), ((Below.refl _ _).alloc (Nat.le_refl _) _).alloc (by simp) _⟩
theorem sz_any (A : Option Addr) (n c : Nat) (hn : n ≤ maxLen) (w : World) : Calls Try.prog 32 #[.slice A n c, .int .i64 1048576] w fun e w' => e = .returned (.int .i64 (if n ≤ 1048576 then 1048576 - n else -1)) ∧ w = w' := by
  unfold maxLen at hn
  by_cases h : n ≤ 1048576
  · go_enter Try.func32, Try.ntmps32
    go_wp2
    go_ret
    exact ⟨rfl, rfl⟩
  · go_enter Try.func32, Try.ntmps32
    go_wp2
    go_ret
    exact ⟨rfl, rfl⟩
end Go.Proofs.Ytjgohakiodcjmaa
namespace Go.Proofs.Ytjgohakiodcjmaa
open Go.RowKit
theorem made_people (n : Nat) : (madeCells #[.int .i64 0, .int .i64 0, .int .i64 0, .int .i64 0] (n * 4)).toList = pcells (List.replicate n pz) := by
  refine List.ext_getElem? fun i => ?_
  have hl := pcells_length (List.replicate n pz)
  rw [List.length_replicate] at hl
  by_cases hi : i < n * 4
  · have hq : i / 4 < (List.replicate n pz).length := by simp; omega
    have e : i = i / 4 * 4 + i % 4 := by omega
    have h4 : i % 4 < 4 := Nat.mod_lt _ (by omega)
    have hg := pcells_get (List.replicate n pz) (i / 4) hq (i % 4) h4
    rw [← e] at hg
    rw [hg, List.getElem_replicate]
    simp only [madeCells, Array.toList_map, Array.toList_range, List.getElem?_map, List.getElem?_range hi, Option.map_some]
    rcases (show i % 4 = 0 ∨ i % 4 = 1 ∨ i % 4 = 2 ∨ i % 4 = 3 by omega) with h | h | h | h <;> simp [h, Pn.cells, pz]
  · rw [List.getElem?_eq_none (by simp [madeCells]; omega), List.getElem?_eq_none (by omega)]
theorem Own.cellAt {w : World} {B g n c : Nat} {l : List Pn} (h : Own w B (.slice (some ⟨g, 0, none⟩) n c) l) (k : Nat) (hk : k < l.length) :
    w.cell? ⟨g, k * 4, none⟩ = some (.int .i64 l[k].area) ∧ w.cell? ⟨g, k * 4 + 1, none⟩ = some (.int .i64 l[k].job) ∧ w.cell? ⟨g, k * 4 + 2, none⟩ = some (.int .i64 l[k].sex) ∧ w.cell? ⟨g, k * 4 + 3, none⟩ = some (.int .i64 l[k].pay) ∧ ∀ o, w.frozen? ⟨g, o, none⟩ = false := by
  obtain ⟨b, o, hA, _, c0, c1, c2, c3⟩ := (Own.row h).at_ k hk
  injection hA with hA
  injection hA with h1 h2 _
  subst h1 h2
  refine ⟨by simpa using c0, by simpa using c1, by simpa using c2, by simpa using c3, fun o => ?_⟩
  rcases h.2 with ⟨hv, _⟩ | ⟨g', cap, cur, hv, _, hh, _⟩
  · cases hv
  · injection hv with hv
    injection hv with hv
    injection hv with hv
    subst hv
    exact frozen_of_row w g o _ _ hh
theorem pcells_set (l : List Pn) (k : Nat) (hk : k < l.length) (p : Pn) : pcells (l.set k p) = ((((pcells l).set (k * 4) (.int .i64 p.area)).set (k * 4 + 1) (.int .i64 p.job)).set (k * 4 + 2) (.int .i64 p.sex)).set (k * 4 + 3) (.int .i64 p.pay) := by
  induction l generalizing k with
  | nil => simp at hk
  | cons q l ih =>
    cases k with
    | zero => simp [pcells, Pn.cells]
    | succ k =>
      have h := ih k (by simpa using hk)
      have e0 : (k + 1) * 4 = k * 4 + 4 := by omega
      simp only [pcells] at h
      simp only [List.set_cons_succ, pcells, List.flatMap_cons, Pn.cells, e0, List.cons_append, List.nil_append]
      rw [h]
theorem Own.setAt {w : World} {B g n c : Nat} {l : List Pn} (h : Own w B (.slice (some ⟨g, 0, none⟩) n c) l) (k : Nat) (hk : k < l.length) (p : Pn) :
    Own ((((w.setCell ⟨g, k * 4, none⟩ (.int .i64 p.area)).setCell ⟨g, k * 4 + 1, none⟩ (.int .i64 p.job)).setCell ⟨g, k * 4 + 2, none⟩ (.int .i64 p.sex)).setCell ⟨g, k * 4 + 3, none⟩ (.int .i64 p.pay)) B (.slice (some ⟨g, 0, none⟩) n c) (l.set k p) := by
  obtain ⟨h1, h2⟩ := h
  rcases h2 with ⟨hv, _⟩ | ⟨g', cap, cur, hv, hg, hh, hnc, hc, hsz, ht⟩
  · cases hv
  · have hgg : g' = g ∧ cap = c ∧ n = l.length := by
      injection hv with a1 a2 a3
      injection a1 with a1
      injection a1 with a1
      exact ⟨a1.symm, a3.symm, a2⟩
    obtain ⟨rfl, rfl, rfl⟩ := hgg
    refine ⟨by rw [pcells_length], .inr ⟨g', cap, (((cur.setIfInBounds (k * 4) (.int .i64 p.area)).setIfInBounds (k * 4 + 1) (.int .i64 p.job)).setIfInBounds (k * 4 + 2) (.int .i64 p.sex)).setIfInBounds (k * 4 + 3) (.int .i64 p.pay), by rw [List.length_set], hg, ?_, by rw [List.length_set]; exact hnc, hc, by simpa using hsz, ?_⟩⟩
    · simp [World.setCell, Array.getElem?_modify, hh]
    · simp only [Array.toList_setIfInBounds, List.length_set, List.take_set]
      rw [ht, pcells_set l k hk p]
theorem set_mid (l : List Pn) (k : Nat) (hk : k < l.length) : (l.take k ++ List.replicate (l.length - k) pz).set k l[k] = l.take (k + 1) ++ List.replicate (l.length - (k + 1)) pz := by
  have e : l.length - k = (l.length - (k + 1)) + 1 := by omega
  have hl : (l.take k).length = k := by simp; omega
  rw [e, List.replicate_succ, List.set_append_right _ _ (by omega), hl, Nat.sub_self, List.set_cons_zero, List.take_succ_eq_append_getElem hk, List.append_assoc]; rfl

/-- What 'toPersonS' hands back: the people anew, in one block of its own. -/
def Copied (l : List Pn) (w : World) (e : Ending) (w' : World) : Prop := ∃ g, e = .returned (.slice (some ⟨g, 0, none⟩) l.length l.length) ∧ w.heap.size ≤ g ∧ Own w' w.heap.size (.slice (some ⟨g, 0, none⟩) l.length l.length) l ∧ Below w.heap.size w w'
theorem toPersonS_any (l : List Pn) (A : Option Addr) (c : Nat) (hl : l.length ≤ 1048576) (w : World) (hr : Row w w.heap.size A (pcells l)) :
    Calls Try.prog 33 #[.slice A l.length c] w (Copied l w) := by
  obtain ⟨i0, hi0, hz0, hz1, hz2⟩ := info_parts info_P
  go_enter Try.func33, Try.ntmps33
  go_wp2_with (at_make; go_loud (refine wpList_make_full _ rfl _ _ TPS rfl w.heap.size TP i0 _ 4 Try.underlying23 hi0 hz0 hz1 _ _ _ _ l.length rfl rfl rfl rfl (by rw [hz2]; omega) (by simp only [maxLen]; omega) (Nat.le_refl _) ?_); intro w1 ho hg)
  have ho1 : Own w1 w.heap.size (.slice (some ⟨w.heap.size, 0, none⟩) l.length l.length) (List.replicate l.length pz) := by
    unfold Own; rw [← made_people, List.length_replicate]; exact ho
  have HO := Lib.hid ho1
  have HB := Lib.hid (show Below w.heap.size w w1 from (Below.refl _ _).grown hg (Nat.le_refl _) (fun k hk => by cases hk))
  have hz := hg.size
  clear ho ho1 hg
  have hg1 := (World.ownsRow.lt HO.out w.heap.size rfl).2
  obtain ⟨G, hG⟩ : ∃ G, w.heap.size = G := ⟨_, rfl⟩
  rw [hG] at HO HB hz hg1 hr ⊢
  have HG := Lib.hid hG; clear hG
  go_wp2
  go_loopw [4] (fun i wr => ∃ k : Nat, k ≤ l.length ∧ i = .int .i64 k ∧ Own wr G (.slice (some ⟨G, 0, none⟩) l.length l.length) (l.take k ++ List.replicate (l.length - k) pz) ∧ Below G w wr) (fun i _ => l.length - (intOf i).toNat)
  case atStart => exact ⟨0, Nat.zero_le _, rfl, by simpa using HO.out, HB.out⟩
  case round =>
    obtain ⟨k, hk, rfl, ho, hb⟩ := hrel
    clear HO HB
    have HO := Lib.hid ho; clear ho
    by_cases hlt : k < l.length
    · obtain ⟨b, o, rfl, hbw, c0, c1, c2, c3⟩ := (hr.below hb (Nat.le_refl _)).at_ k hlt
      go_wp2_with fail
      refine (toPerson_any l[k] _).mono ?_
      rintro e w2 ⟨rfl, h2⟩
      have ho2 := HO.out.below h2
      have hkl : k < (l.take k ++ List.replicate (l.length - k) pz).length := by simp; omega
      obtain ⟨d0, d1, d2, d3, hfr⟩ := ho2.cellAt k hkl
      have f0 := hfr (k * 4); have f1 := hfr (k * 4 + 1); have f2 := hfr (k * 4 + 2); have f3 := hfr (k * 4 + 3)
      have hs := ho2.setAt k hkl l[k]
      rw [set_mid l k hlt] at hs
      have HS := Lib.hid hs
      have hb2 := Lib.hid (hb.trans (h2.mono (by have := (World.ownsRow.lt HO.out G rfl).2; omega)))
      clear hs ho2 hfr h2
      go_wp2
      go_roundw
      case rel => exact ⟨k + 1, by omega, by go_num, HS.out, (((hb2.out.setCell (p := ⟨G, k * 4, none⟩) (Nat.le_refl G) _).setCell (p := ⟨G, k * 4 + 1, none⟩) (Nat.le_refl G) _).setCell (p := ⟨G, k * 4 + 2, none⟩) (Nat.le_refl G) _).setCell (p := ⟨G, k * 4 + 3, none⟩) (Nat.le_refl G) _⟩
      case measure => simp [intOf]; omega
    · go_wp2
      go_ret
      have h := HO.out
      rw [List.take_of_length_le (by omega), show l.length - k = 0 by omega, List.replicate_zero, List.append_nil] at h
      exact ⟨G, rfl, Nat.le_of_eq HG.out, by rw [HG.out]; exact h, by rw [HG.out]; exact hb⟩
end Go.Proofs.Ytjgohakiodcjmaa
namespace Go.Proofs.Ytjgohakiodcjmaa
open Go.RowKit
theorem eqP_self (p : Pn) : eqP p p = true := by simp [eqP]
theorem eqS_any (l : List Pn) (A B : Option Addr) (c d : Nat) (hl : l.length ≤ 1048576) (W : World) (ha : Row W W.heap.size A (pcells l)) (hb : Row W W.heap.size B (pcells l)) :
    Calls Try.prog 34 #[.slice A l.length c, .slice B l.length d] W fun e w' => e = .returned (.bool true) ∧ Below W.heap.size W w' := by
  go_enter Try.func34, Try.ntmps34
  go_wp2
  go_loopw [5] (fun i wr => ∃ k : Nat, k ≤ l.length ∧ i = .int .i64 k ∧ Below W.heap.size W wr) (fun i _ => l.length - (intOf i).toNat)
  case atStart => exact ⟨0, Nat.zero_le _, rfl, Below.refl _ _⟩
  case round =>
    obtain ⟨k, hk, rfl, h1⟩ := hrel
    by_cases hlt : k < l.length
    · obtain ⟨x, o, rfl, hx, c0, c1, c2, c3⟩ := ha.at_ k hlt
      obtain ⟨y, u, rfl, hy, d0, d1, d2, d3⟩ := hb.at_ k hlt
      have HF := Lib.hid (show ∀ w' : World, Below W.heap.size W w' → (Below W.heap.size W w' ∧ w'.cell? ⟨x, o + k * 4, none⟩ = some (.int .i64 l[k].area) ∧ w'.cell? ⟨x, o + k * 4 + 1, none⟩ = some (.int .i64 l[k].job) ∧ w'.cell? ⟨x, o + k * 4 + 2, none⟩ = some (.int .i64 l[k].sex) ∧ w'.cell? ⟨x, o + k * 4 + 3, none⟩ = some (.int .i64 l[k].pay) ∧
          w'.cell? ⟨y, u + k * 4, none⟩ = some (.int .i64 l[k].area) ∧ w'.cell? ⟨y, u + k * 4 + 1, none⟩ = some (.int .i64 l[k].job) ∧ w'.cell? ⟨y, u + k * 4 + 2, none⟩ = some (.int .i64 l[k].sex) ∧ w'.cell? ⟨y, u + k * 4 + 3, none⟩ = some (.int .i64 l[k].pay)) from
        fun w' h => ⟨h, (h.cell hx).trans c0, (h.cell hx).trans c1, (h.cell hx).trans c2, (h.cell hx).trans c3, (h.cell hy).trans d0, (h.cell hy).trans d1, (h.cell hy).trans d2, (h.cell hy).trans d3⟩)
      clear c0 c1 c2 c3 d0 d1 d2 d3
      have h1d : Below W.heap.size W wr.drew := h1.drew
      go_wp2
      go_region_held3 (fun w' => Below W.heap.size W w' ∧ w'.cell? ⟨x, o + k * 4, none⟩ = some (.int .i64 l[k].area) ∧ w'.cell? ⟨x, o + k * 4 + 1, none⟩ = some (.int .i64 l[k].job) ∧ w'.cell? ⟨x, o + k * 4 + 2, none⟩ = some (.int .i64 l[k].sex) ∧ w'.cell? ⟨x, o + k * 4 + 3, none⟩ = some (.int .i64 l[k].pay) ∧
          w'.cell? ⟨y, u + k * 4, none⟩ = some (.int .i64 l[k].area) ∧ w'.cell? ⟨y, u + k * 4 + 1, none⟩ = some (.int .i64 l[k].job) ∧ w'.cell? ⟨y, u + k * 4 + 2, none⟩ = some (.int .i64 l[k].sex) ∧ w'.cell? ⟨y, u + k * 4 + 3, none⟩ = some (.int .i64 l[k].pay))
        (first | exact HF.out _ (by assumption) | exact HF.out _ h1d)
        (first | (go_at_call 57; refine (eqPerson_any l[k] l[k] _).mono ?_; rintro e w3 ⟨rfl, h3⟩; rw [eqP_self]; have h4 : Below W.heap.size W w3 := Below.trans (by first | assumption | exact h1d) (h3.mono (by have := h1.size; simp; omega))))
      go_wp2
      go_roundw
      case rel => exact ⟨k + 1, by omega, by go_num, by assumption⟩
      case measure => simp [intOf]; omega
    · go_wp2
      go_ret
      exact ⟨rfl, h1⟩

end Go.Proofs.Ytjgohakiodcjmaa
