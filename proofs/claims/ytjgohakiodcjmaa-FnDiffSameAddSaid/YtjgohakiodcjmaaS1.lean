import Derived.Test.YtjgohakiodcjmaaA4
import Derived.Test.YtjgohakiodcjmaaA9
import Derived.Test.YtjgohakiodcjmaaT12B
set_option maxRecDepth 100000
namespace Go.Proofs.Ytjgohakiodcjmaa
open Go.RowKit
theorem same_any (l : List Pn) (A B : Option Addr) (c d : Nat) (hl : l.length ≤ 1000000) (w : World) (ha : Row w w.heap.size A (pcells l)) (hb : Row w w.heap.size B (pcells l)) :
    Calls Try.prog 21 #[.slice A l.length c, .slice B l.length d] w fun e w' => e = .returned (.bool true) ∧ Below w.heap.size w w' := by
  go_enter Try.func21, Try.ntmps21
  go_wp2
  go_loopw [5] (fun i wr => ∃ k : Nat, k ≤ l.length ∧ i = .int .i64 k ∧ Below w.heap.size w wr) (fun i _ => l.length - (intOf i).toNat)
  case atStart => exact ⟨0, Nat.zero_le _, rfl, Below.refl _ _⟩
  case round =>
    obtain ⟨k, hk, rfl, h1⟩ := hrel
    by_cases hlt : k < l.length
    · obtain ⟨x, o, rfl, hx, c0, c1, c2, c3⟩ := (ha.below h1 (Nat.le_refl _)).at_ k hlt
      obtain ⟨y, u, rfl, hy, d0, d1, d2, d3⟩ := (hb.below h1 (Nat.le_refl _)).at_ k hlt
      have hki : (k : Int) < (l.length : Int) := by omega
      go_wp2
      go_quiet (fail)
      go_wp2
      go_roundw
      case rel => exact ⟨k + 1, by omega, by go_num, below_draws h1 _⟩
      case measure => simp [intOf]; omega
    · go_wp2
      go_ret
      exact ⟨rfl, h1⟩
theorem Own.less {w : World} {B B' : Nat} {v : Value} {l : List Pn} (h : Own w B v l) (hB : B' ≤ B) : Own w B' v l := by
  obtain ⟨h1, h2⟩ := h
  refine ⟨h1, ?_⟩
  rcases h2 with h2 | ⟨g, cap, cur, rfl, hg, r⟩
  · exact .inl h2
  · exact .inr ⟨g, cap, cur, rfl, by omega, r⟩
theorem row_new (w : World) (p : Pn) (t : TypeId) : Row (w.alloc (.cells #[.int .i64 p.area, .int .i64 p.job, .int .i64 p.sex, .int .i64 p.pay] t)) (w.heap.size + 1) (some ⟨w.heap.size, 0, none⟩) (pcells [p]) :=
  .inr ⟨_, 0, rfl, Nat.lt_succ_self _, fun j u hu => by
    rw [pcells_one] at hu
    have h := cells_at (W := w.alloc (.cells #[.int .i64 p.area, .int .i64 p.job, .int .i64 p.sex, .int .i64 p.pay] t)) (g := w.heap.size) (t := t) (heap_alloc_new w _) j u hu
    rwa [Addr.add_lit] at h⟩
theorem unlink_any (l : List Pn) (hl : l.length ≤ 40) (h : Nat) (q : Pn) (y : Value) (w : World) (hn : Nd TL w h q y) (hc : Chain TL w (h + 1) y l) :
    Calls Try.prog 47 #[.pointer (some ⟨h, 0, none⟩)] w fun e w' => ∃ v, e = .returned v ∧ Own w' w.heap.size v l ∧ Below w.heap.size w w' := by
  obtain ⟨u0, rfl⟩ := hc.ptr
  obtain ⟨_, _, _, _, n4, n5⟩ := hn.cells
  have hhs := hn.lt
  have HC := Lib.hid hc
  clear hc hn
  go_enter Try.func47, Try.ntmps47
  go_wp2
  go_loopg [3, 4] l.length (fun n v x wr => ∃ k lo : Nat, ∃ u v', k + n = l.length ∧ x = .pointer u ∧ v' = v ∧ Own wr w.heap.size v' (l.take k) ∧ Below w.heap.size w wr ∧ Chain TL w lo (.pointer u) (l.drop k))
  case atStart => exact ⟨0, _, u0, _, by omega, rfl, rfl, own_new w w (Below.refl _ _), (Below.refl _ _).alloc (Nat.le_refl _) _, HC.out⟩
  case round =>
    obtain ⟨k, lo, u, v, hk, rfl, rfl, ho, hb, hc⟩ := hrel
    have hk1 : k ≤ l.length := by omega
    have HK := Lib.hid hk; clear hk
    have HO := Lib.hid ho; clear ho
    have hz := hb.size
    clear HC
    by_cases hlt : k < l.length
    · rw [List.drop_eq_getElem_cons hlt] at hc
      obtain ⟨b, x', hbm, hu, hnb, hc⟩ := hc
      obtain rfl : u = some ⟨b, 0, none⟩ := by injection hu
      obtain ⟨u', rfl⟩ := hc.ptr
      have HC' := Lib.hid hc; clear hc hu
      have HN := Lib.hid hnb
      have hbw := hnb.lt
      obtain ⟨c0, c1, c2, c3, c4, c5⟩ := (hnb.keep (hb.block b hbw)).cells
      clear hnb
      go_wp2_with (at_builtin
                   refine app_people rfl (.tmp 16) (.tmp 21) rfl w.heap.size v (l.take k) rfl (HO.out.alloc _) (wr.heap.size + 1) (some ⟨wr.heap.size, 0, none⟩) 1 1 [l[k]] rfl rfl (row_new _ _ _) (by simp; omega) (by simp; omega) ?_
                   intro v2 w2 ho2 hg2
                   have hb2 : Below w.heap.size w w2 := below_own (hb.alloc hz _) (HO.out.alloc _) hg2
                   obtain ⟨e0, e1, e2, e3, e4, e5⟩ := (HN.out.keep (hb2.block b hbw)).cells
                   rw [← List.take_succ_eq_append_getElem hlt] at ho2
                   have HO2 := Lib.hid ho2
                   clear ho2 hg2)
      go_roundg (l.length - (k + 1))
      case measure => have := HK.out; omega
      case rel => exact ⟨k + 1, _, u', v2, by have := HK.out; omega, rfl, rfl, HO2.out, hb2, HC'.out⟩
    · rw [List.drop_eq_nil_of_le (by omega)] at hc
      obtain rfl : u = none := by injection hc
      clear hc
      have ht : l.take k = l := List.take_of_length_le (by omega)
      rw [ht] at HO
      go_wp2
      go_ret
      exact ⟨v, rfl, HO.out, hb⟩
end Go.Proofs.Ytjgohakiodcjmaa
