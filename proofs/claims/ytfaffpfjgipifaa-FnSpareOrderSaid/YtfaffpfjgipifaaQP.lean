/- Contributions: putting one into a heap and taking one out. -/
import Derived.Test.YtfaffpfjgipifaaQD
namespace Go.Proofs.Ytfaffpfjgipifaa
open Go.RowKit
theorem one_H : OneCell TH TN := ⟨Try.underlying57, .int .i64 0, 8, by kernel_rfl, rfl, by omega⟩
abbrev ifH (p : Nat) : Value := .iface TPH (pt p)
abbrev ifI (x : Int) : Value := .iface TN (.int .i64 x)
section
variable {w w' : World} {B T p : Nat} {v : Value} {a : List Int}
theorem set_own {w : World} {B T p : Nat} {v u : Value} {a : List Int} (hp : w.heap[p]? = some (.cells #[u] TH (0, 0))) (hB : B ≤ p) (ho : Own1 TN w B v (icells a)) (hne : v.ownBlock ≠ some p) (hT : p < T) (hvT : ∀ k, v.ownBlock = some k → k < T) (hTw : T ≤ w.heap.size) : HpV (w.setCell ⟨p, 0, none⟩ v) B T p v a := by
  refine ⟨by simp [World.setCell, Array.getElem?_modify, hp], hB, ho.same fun k hk => Below.heap_setCell w ⟨p, 0, none⟩ v k (by show k ≠ p; intro e; subst e; exact hne hk), hne, hT, hvT, by simpa using hTw⟩
theorem asI (x : Int) (w : World) : Sem.run Try.prog (Instr.typeAssert (ifI x) 20 TN false) w = .ok (.int .i64 x) w := by kernel_rfl
/-- A heap that holds another list. -/
def Put (B p : Nat) (b : List Int) (w : World) (w' : World) : Prop := Below B w w' ∧ ∃ v, HpV w' B w'.heap.size p v b
/-- What a pop leaves. -/
def PutW (B T p : Nat) (b : List Int) (w : World) (w' : World) : Prop := Within w w' B T ∧ ∃ v, HpV w' B T p v b
theorem put_end {w2 w4 : World} {v4 : Value} {b : List Int} (h : HpV w2 B T p v a) (hB : B ≤ w2.heap.size) (hb : Below B w w2) (ho : Own1 TN w4 B v4 (icells b)) (hg : w2.grownBy w4 v.ownBlock) (hn : v4.ownBlock = v.ownBlock ∨ v4.ownBlock = some w2.heap.size) (q : Nat) : Put B p b w ((w4.setCell ⟨p, 0, none⟩ v4).drewN q) := by
  have hp : w4.heap[p]? = some (.cells #[v] TH (0, 0)) := (hg.block p h.lt (fun e => h.2.2.2.1 e.symm)).trans h.1
  have hlt := h.lt
  refine ⟨below_draws ((hb.grown hg hB fun g hg2 => (h.2.2.1.ob g hg2).1).setCell h.2.1 v4) q, v4, ?_⟩
  have hT : HpV (w4.setCell ⟨p, 0, none⟩ v4) B w4.heap.size p v4 b := by
   refine set_own hp h.2.1 ho ?_ (Nat.lt_of_lt_of_le hlt hg.size) (fun k hk => (ho.ob k hk).2) (Nat.le_refl _)
   rcases hn with e | e
   · rw [e]; exact h.2.2.2.1
   · rw [e]; intro e2; injection e2 with e2; omega
  show HpV ((w4.setCell ⟨p, 0, none⟩ v4).drewN q) B ((w4.setCell ⟨p, 0, none⟩ v4).drewN q).heap.size p v4 b
  rw [show ((w4.setCell ⟨p, 0, none⟩ v4).drewN q).heap.size = w4.heap.size from World.size_setCell _ _ _]; exact hT.draws q
set_option maxHeartbeats 2000000 in
theorem push_any (h : HpV w B T p v a) (hl : a.length ≤ 1000) (hB : B ≤ w.heap.size) (x : Int) :
    Calls Try.prog 66 #[pt p, ifI x] w fun e w' => e = .returned (.tuple #[]) ∧ Put B p (a ++ [x]) w w' := by
  have hc := h.cell
  obtain ⟨c0, f0⟩ := hc
  have ho : Own1 TN ((w.alloc (.cells #[.int .i64 x] TN)).drew) B v (icells a) := h.2.2.1.alloc _
  have hb2 : Below B w ((w.alloc (.cells #[.int .i64 x] TN)).drew) := ((Below.refl B w).alloc hB _).drew
  have hh2 : HpV ((w.alloc (.cells #[.int .i64 x] TN)).drew) B T p v a := ⟨((Below.refl w.heap.size w).alloc (Nat.le_refl _) _).block p h.lt |>.trans h.1, h.2.1, ho, h.2.2.2.1, h.2.2.2.2.1, h.2.2.2.2.2.1, Nat.le_trans h.2.2.2.2.2.2 ((Below.refl w.heap.size w).alloc (Nat.le_refl _) _).size⟩
  have hrow : Row ((w.alloc (.cells #[.int .i64 x] TN)).drew) (w.heap.size + 1) (some ⟨w.heap.size, 0, none⟩) [.int .i64 x] := row_lit w #[.int .i64 x] TN
  have HLEN := Lib.hid (show (icells a).length + [Value.int .i64 x].length ≤ 1000000 by rw [icells_len]; simp; omega)
  have HONE := Lib.hid (show ∀ u ∈ [Value.int .i64 x], u.oneCell' = true by intro u hu; simp at hu; subst hu; rfl)
  have cA : (w.alloc (.cells #[.int .i64 x] 3)).cell? ⟨p, 0, none⟩ = some v := hh2.cell.1
  have HSZ := Lib.hid (show B ≤ ((w.alloc (.cells #[.int .i64 x] TN)).drew).heap.size from Nat.le_trans hB hb2.size)
  have HO := Lib.hid ho
  have HB2 := Lib.hid hb2
  have HH2 := Lib.hid hh2
  have HR := Lib.hid hrow
  have HLT := Lib.hid h.lt
  have HNE := Lib.hid h.2.2.2.1
  clear ho hb2 hh2 hrow
  have hTA := asI x
  go_enter Try.func66, Try.ntmps66
  go_wp2
  go_region_law (refine step1 one_H rfl (.tmp 7) (.tmp 10) rfl B v (icells a) rfl HO.out (w.heap.size + 1) (some ⟨w.heap.size, 0, none⟩) 1 1 [.int .i64 x] rfl rfl HR.out HONE.out HLEN.out HSZ.out ?_
                 intro v4 w4 ho4 hg4 hn4
                 have HP4 := fun q => Lib.hid (put_end HH2.out HSZ.out HB2.out ((icells_app a [x]) ▸ ho4) hg4 hn4 q)
                 have c4 : w4.cell? ⟨p, 0, none⟩ = some v := cell_of_row w4 p 0 _ _ _ ((hg4.block p HH2.out.lt (fun e => HNE.out e.symm)).trans HH2.out.1)
                 have f4 : w4.frozen? ⟨p, 0, none⟩ = false := frozen_of_row w4 p 0 _ _ ((hg4.block p HH2.out.lt (fun e => HNE.out e.symm)).trans HH2.out.1)
                 obtain ⟨A4, n4, k4, e4⟩ : ∃ A n k, v4 = .slice A n k := by obtain ⟨A, k, e, _⟩ := ho4.form; exact ⟨A, _, k, e⟩
                 subst e4
                 clear ho4 hg4 hn4)
  all_goals (go_wp2; go_end0; exact ⟨rfl, (HP4 0).out⟩)
theorem HpV.cut (h : HpV w B T p v a) {g c n : Nat} (hv : v = .slice (some ⟨g, 0, none⟩) a.length c) (hn : n ≤ a.length) : HpV (w.setCell ⟨p, 0, none⟩ (.slice (some ⟨g, 0, none⟩) n c)) B T p (.slice (some ⟨g, 0, none⟩) n c) (a.take n) := by
  refine set_own h.1 h.2.1 ?_ (by subst hv; exact h.2.2.2.1) h.2.2.2.2.1 (by subst hv; exact h.2.2.2.2.2.1) h.2.2.2.2.2.2
  obtain ⟨_, _, ⟨_, h2⟩, _⟩ := h
  subst hv
  have hl : (icells (a.take n)).length = n := by rw [icells_len, List.length_take]; omega
  rcases h2 with ⟨hv, _⟩ | ⟨g', cap, cur, hv, hg, hh, hnc, hc, hsz, ht⟩
  · cases hv
  · have hgg : g' = g ∧ cap = c := by
      injection hv with a1 a2 a3
      injection a1 with a1
      injection a1 with a1
      exact ⟨a1.symm, a3.symm⟩
    obtain ⟨rfl, rfl⟩ := hgg
    rw [icells_len] at hnc ht
    refine ⟨by rw [Nat.mul_one], .inr ⟨g', cap, cur, by rw [hl], hg, hh, by rw [hl]; omega, hc, hsz, ?_⟩⟩
    have : (icells (a.take n)) = (icells a).take n := by simp [icells]
    rw [hl, this, ← ht]
    simp only [Nat.mul_one, List.take_take]
    rw [Nat.min_eq_left hn]
set_option maxHeartbeats 1000000 in
theorem popm_any (h : HpV w B T p v a) (h0 : 0 < a.length) (hl : a.length ≤ 1000) :
    Calls Try.prog 65 #[pt p] w fun e w' => e = .returned (ifI (at0 a (a.length - 1))) ∧ PutW B T p (a.take (a.length - 1)) w w' := by
  obtain ⟨g, c, hv, hgw, hgp, hc⟩ := h.form h0
  have HE := Lib.hid (h.cut hv (Nat.sub_le a.length 1))
  have HB := fun x => Lib.hid (wth_set (Within.refl w B T) h.2.1 h.2.2.2.2.1 0 x)
  obtain ⟨c0, f0⟩ := h.cell
  have cl := (hc (a.length - 1) (by omega)).1
  obtain ⟨n, hn⟩ : ∃ n, n = a.length - 1 := ⟨_, rfl⟩
  have hn1 : a.length = n + 1 := by omega
  rw [← hn] at HE cl
  rw [hv, hn1] at c0
  rw [← hn]
  have hcn : n + 1 ≤ c := by obtain ⟨A, c', e, h1, _⟩ := h.len_; rw [hv] at e; injection e with _ _ e3; omega
  have hcm : c ≤ maxLen := by obtain ⟨A, c', e, _, h1⟩ := h.len_; rw [hv] at e; injection e with _ _ e3; omega
  unfold maxLen at hcm
  have hn9 : n ≤ 1000 := by omega
  clear hc hv hn hn1 h h0 hl hgw
  generalize a.take n = b at *
  generalize at0 a n = x at *
  have e1 : ((n + 1 : Nat) : Int) - 1 = (n : Int) := by omega
  go_enter Try.func65, Try.ntmps65
  go_wp2
  go_ret
  exact ⟨rfl, (HB _).out, _, HE.out⟩
/-- A heap, told by its numbers in descending order. -/
def HS (w : World) (B T p : Nat) (D : List Int) : Prop := ∃ v a, HpV w B T p v a ∧ heapN a a.length ∧ ds a = D
theorem HS.len {D : List Int} (h : HS w B T p D) : ∃ v a, HpV w B T p v a ∧ heapN a a.length ∧ ds a = D ∧ a.length = D.length := by
  obtain ⟨v, a, h1, h2, h3⟩ := h
  exact ⟨v, a, h1, h2, h3, by rw [← h3, ds_len]⟩
theorem lenv_any (h : HpV w B T p v a) (y : Int) (hy : (a.length : Int) = y) : Calls Try.prog 39 #[v] w fun e w' => e = .returned (.int .i64 y) ∧ w = w' := by
  obtain ⟨A, c, hv, _, _⟩ := h.len_
  subst hv hy; exact len_any _ _ _ _
/-- The heap has become another one. -/
def Turn (B p : Nat) (D : List Int) (w : World) (w' : World) : Prop := Below B w w' ∧ HS w' B w'.heap.size p D
/-- The heap has become another one where it lay. -/
def TurnW (B T p : Nat) (D : List Int) (w : World) (w' : World) : Prop := Within w w' B T ∧ HS w' B T p D
theorem HpV.up (h : HpV w B T p v a) : HpV w B w.heap.size p v a := ⟨h.1, h.2.1, h.2.2.1, h.2.2.2.1, h.lt, fun k e => (h.2.2.1.ob k e).2, Nat.le_refl _⟩
theorem up_turn {w1 w' : World} {D : List Int} {x : Int} (hb : Below B w w1) (h3 : ds a = D) (hB : B ≤ w1.heap.size) (h : Upd B T p v (a ++ [x]) (fun b => heapN b b.length) w1 w') : Turn B p (ds (x :: D)) w w' := by
  obtain ⟨hb2, b, k1, k2, k3⟩ := h
  refine ⟨hb.trans (wth_below hb2 hB), v, b, k1.up, k3, ?_⟩
  rw [ds_congr k2, ← h3]
  exact ds_congr ((List.perm_append_singleton x a).trans (List.Perm.cons x (ds_perm a).symm))
set_option maxHeartbeats 1000000 in
theorem hpush_any {D : List Int} (h : HS w B T p D) (hl : D.length ≤ 900) (hB : B ≤ w.heap.size) (x : Int) :
    Calls Try.prog 38 #[ifH p, ifI x] w fun e w' => e = .returned (.tuple #[]) ∧ Turn B p (ds (x :: D)) w w' := by
  obtain ⟨v, a, h1, h2, h3, h4⟩ := h.len
  have H1 := Lib.hid h1
  have H2 := Lib.hid h2
  have H3 := Lib.hid h3
  have hmP := meth_push p w
  have HL := Lib.hid (show a.length ≤ 900 by omega)
  have HB := Lib.hid hB
  obtain ⟨m, hm⟩ : ∃ m, m = a.length := ⟨_, rfl⟩
  have hm9 : m ≤ 900 := by omega
  have HM := Lib.hid hm
  clear h h1 h2 h3 h4 hl hB hm
  go_enter Try.func38, Try.ntmps38
  go_wp2_with (first
    | (go_at_call 66; (with_reducible refine (push_any H1.out (by have := HL.out; omega) HB.out x).mono ?_); rintro e w1 ⟨rfl, hb1, v1, hp1⟩
       have HB1 := Lib.hid hb1
       have HP1 := Lib.hid hp1
       have mLen := meth_len hp1
       clear hb1 hp1)
    | (go_at_call 39; (with_reducible refine (lenv_any HP1.out ((m : Int) + 1) (by rw [HM.out]; simp)).mono ?_); rintro e w' ⟨rfl, rfl⟩; clear mLen)
    | (go_at_call 43; (with_reducible refine (up_any HP1.out m (by rw [HM.out]; simp) (by have := HL.out; simp; omega) (by rw [HM.out]; exact heapU_push H2.out x)).mono ?_); rintro e w2 ⟨rfl, hu⟩; have HU := Lib.hid hu; clear hu))
  go_end0
  exact ⟨rfl, up_turn HB1.out H3.out (Nat.le_trans HB.out HB1.out.size) HU.out⟩
theorem down_turn {w1 w2 w3 : World} {D : List Int} {x : Int} {n : Nat} (h0 : a.length = n + 1) (h2 : heapN a a.length) (h3 : ds a = x :: D) {b : List Int} (hb1 : Within w w1 B T) (hb2 : Within w1 w2 B T)
    (k2 : b.Perm (swp a 0 n)) (k3 : heapN b n) (k4 : at0 b n = at0 (swp a 0 n) n) (hp : PutW B T p (b.take n) w2 w3) : TurnW B T p D w w3 ∧ at0 b n = x := by
  obtain ⟨hb3, v3, k5⟩ := hp
  have hl : b.length = a.length := k2.length_eq.trans (swp_len _ _ _)
  have hn : at0 b n = at0 a 0 := by rw [k4, swp_at (by omega) (by omega), if_pos rfl]
  have hm : a.length - 1 = n := by omega
  have e := pop_is h2 (by omega) hl (k2.trans (swp_perm (by omega) (by omega))) (by rw [hm]; exact hn)
  rw [hm, h3] at e
  injection e with e1 e2
  exact ⟨⟨wth_trans (wth_trans hb1 hb2) hb3, v3, b.take n, k5, take_heap k3 (by omega), e2.symm⟩, hn.trans e1.symm⟩
set_option maxHeartbeats 1000000 in
theorem hpop_any {D : List Int} {x : Int} (h : HS w B T p (x :: D)) (hl : D.length ≤ 900) :
    Calls Try.prog 40 #[ifH p] w fun e w' => e = .returned (ifI x) ∧ TurnW B T p D w w' := by
  obtain ⟨v, a, h1, h2, h3, h4⟩ := h.len
  obtain ⟨n, hn⟩ : ∃ n, a.length = n + 1 := ⟨D.length, h4⟩
  have H1 := Lib.hid h1
  have H2 := Lib.hid h2
  have H3 := Lib.hid h3
  have HN := Lib.hid hn
  have mLen := meth_len h1
  have mS := meth_swap h1
  have hn9 : n ≤ 900 := by rw [h4] at hn; simp at hn; omega
  have HD0 := Lib.hid (show heapD (swp a 0 n) n 0 by have := heapD_pop h2 (by omega); rwa [show a.length - 1 = n by omega] at this)
  clear h h1 h2 h3 h4 hl hn
  go_enter Try.func40, Try.ntmps40
  go_wp2_with (first
    | (go_at_call 39; (with_reducible refine (lenv_any H1.out ((n : Int) + 1) (by rw [HN.out]; simp)).mono ?_); rintro e w' ⟨rfl, rfl⟩; clear mLen)
    | (go_at_call 67; (with_reducible refine (swap_at H1.out 0 n _ _ (by simp) (by omega) (by rw [HN.out]; omega) (by rw [HN.out]; omega) (by rw [HN.out]; omega)).mono ?_); rintro e w1 ⟨rfl, hs, hbw⟩
       have HS1 := Lib.hid hs
       have HB1 := Lib.hid hbw
       clear hs hbw mS)
    | (go_at_call 44; (with_reducible refine (down_any HS1.out n (by rw [swp_len, HN.out]; omega) (by rw [swp_len, HN.out]; omega) HD0.out).mono ?_); rintro e w2 ⟨⟨g2, rfl⟩, hb2, b, k1, k2, k3, k4⟩
       have HB2 := Lib.hid hb2
       have K1 := Lib.hid k1
       have K2 := Lib.hid k2
       have K3 := Lib.hid k3
       have K4 := Lib.hid k4
       have hmP := meth_pop p w2
       have HLB := Lib.hid (show b.length = n + 1 by rw [k2.length_eq, swp_len]; exact HN.out)
       clear hb2 k1 k2 k3 k4)
    | (go_at_call 65; (with_reducible refine (popm_any K1.out (by rw [HLB.out]; omega) (by rw [HLB.out]; omega)).mono ?_); rintro e w3 ⟨rfl, hp3⟩
       rw [show b.length - 1 = n by rw [HLB.out]; omega] at hp3
       obtain ⟨hT, hx⟩ := down_turn HN.out H2.out H3.out HB1.out HB2.out K2.out K3.out K4.out hp3
       have HT := Lib.hid hT
       have HX := Lib.hid hx
       clear hT hx hp3 hmP))
  go_ret
  exact ⟨by first | rfl | (rw [show b.length - 1 = n by rw [HLB.out]; omega, HX.out]; rfl) | (show Ending.returned (ifI (at0 b (b.length - 1))) = _; rw [show b.length - 1 = n by rw [HLB.out]; omega, HX.out]), HT.out⟩
end
end Go.Proofs.Ytfaffpfjgipifaa
