/- A law of chapter 13: HighOrder. -/
import Derived.Test.YtdjjkfhdgnlkeaaWN0
import Derived.Deep.RegionHeld3
import Derived.Test.YtdjjkfhdgnlkeaaWL0
import Derived.Test.YtdjjkfhdgnlkeaaRQ
namespace Go.Proofs.Ytdjjkfhdgnlkeaa
open Go.RowKit
def IsB1 (w : World) (v : Value) (x : List Bool) : Prop := ∃ A c, v = .slice A x.length c ∧ x.length ≤ c ∧ c ≤ maxLen ∧ Row w w.heap.size A (bcells x)
theorem IsB1.below {w w' : World} {v : Value} {x : List Bool} (h : IsB1 w v x) (hb : Below w.heap.size w w') : IsB1 w' v x := by
  obtain ⟨A, c, e, h1, h2, h3⟩ := h
  exact ⟨A, c, e, h1, h2, h3.moved hb⟩
theorem row_take {w : World} {B : Nat} {A : Option Addr} {cs : List Value} (h : Row w B A cs) (k : Nat) : Row w B A (cs.take k) := by
  rcases h with h | ⟨b, o, hA, hb, hc⟩
  · exact .inl (by rw [h]; simp)
  · exact .inr ⟨b, o, hA, hb, fun j u hu => hc j u (by
      rw [List.getElem?_take] at hu
      split at hu
      · exact hu
      · cases hu)⟩
theorem row_cell {w : World} {B b o k : Nat} {cs : List Value} (h : Row w B (some ⟨b, o, none⟩) cs) (hk : k < cs.length) : w.cell? ⟨b, o + k, none⟩ = some (cs.getD k nilS) := by
  rcases h with h | ⟨b', o', hA, _, hc⟩
  · rw [h] at hk; simp at hk
  · injection hA with hA
    injection hA with h1 h2 _
    subst h1 h2
    exact hc k _ (by rw [List.getD_eq_getElem?_getD, List.getElem?_eq_getElem hk]; rfl)
theorem take_getD {α : Type} (l : List α) {i p : Nat} (d : α) (h : i < p) : (l.take p).getD i d = l.getD i d := by
  rw [List.getD_eq_getElem?_getD, List.getElem?_take, if_pos h, List.getD_eq_getElem?_getD]
theorem rot_mem {α : Type} {t : List (List α)} {q : Nat} (hq : t.length = q) (h0 : 0 < q) {r : List α} (hr : r ∈ t.getD (q - 1) [] :: t.take (q - 1)) : r ∈ t := by
  rcases List.mem_cons.1 hr with h | h
  · rw [h, getD_of _ _ (show q - 1 < t.length by omega)]; exact List.getElem_mem _
  · exact List.mem_of_mem_take h
theorem rot_get {α : Type} (t : List (List α)) {q k : Nat} (hq : t.length = q) (hk : k < q) : (t.getD (q - 1) [] :: t.take (q - 1)).getD k [] = t.getD (rotR q k) [] := by
  unfold rotR
  cases k with
  | zero => rfl
  | succ k =>
    rw [if_neg (by omega), List.getD_cons_succ, List.getD_eq_getElem?_getD, List.getElem?_take, if_pos (by omega), List.getD_eq_getElem?_getD]
    rfl
theorem isR_heads9 {w : World} {v : Value} {hs : List Value} {B : Nat} {ll : List (List Int)} (h : Own1 TI w B v hs) (hl : hs.length = ll.length)
    (hr : ∀ i, i < ll.length → IsI w (hs.getD i nilS) (ll.getD i [])) : IsR w v ll := by
  obtain ⟨A, c, hv, h1, h2, h3, _⟩ := h.form
  rw [hl] at hv h1
  refine ⟨A, c, hv, h1, h2, hs, hl, h3, fun i hi => ?_⟩
  obtain ⟨Ai, ci, e, h4, h5, h6⟩ := hr i hi
  refine ⟨Ai, ci, ?_, h4, h5, h6⟩
  rw [← e, List.getD_eq_getElem?_getD, List.getElem?_eq_getElem (by omega)]; rfl
theorem IsR.heads9 {w : World} {A : Option Addr} {n c : Nat} {ll : List (List Int)} (h : IsR w (.slice A n c) ll) : ∃ hs : List Value, hs.length = ll.length ∧ n = ll.length ∧ n ≤ c ∧ c ≤ maxLen ∧ Row w w.heap.size A hs ∧ ∀ i, i < ll.length → IsI w (hs.getD i nilS) (ll.getD i []) := by
  obtain ⟨A', c', e, h1, h2, hs, h3, h4, h5⟩ := h
  injection e with e1 e2 e3
  subst e1 e3
  refine ⟨hs, h3, e2, by omega, h2, h4, fun i hi => ?_⟩
  obtain ⟨Ai, ci, e, k1, k2, k3⟩ := h5 i hi
  exact ⟨Ai, ci, by rw [List.getD_eq_getElem?_getD, e]; rfl, k1, k2, k3⟩
theorem heads_oneR {w : World} {hs : List Value} {ll : List (List Int)} (hl : hs.length = ll.length) (h : ∀ i, i < ll.length → IsI w (hs.getD i nilS) (ll.getD i [])) : ∀ u ∈ hs, u.oneCell' = true := by
  intro u hu
  obtain ⟨i, hi, rfl⟩ := List.getElem_of_mem hu
  obtain ⟨A, c, e, _⟩ := h i (by omega)
  have e2 : hs.getD i nilS = hs[i] := by rw [List.getD_eq_getElem?_getD, List.getElem?_eq_getElem hi]; rfl
  rw [← e2, e]; rfl
theorem heads_putR {w : World} {v : Value} {hs : List Value} {B : Nat} {x : List Int} {ll : List (List Int)} {u : Value} (h : Own1 TI w B v ([u] ++ hs)) (hu : IsI w u x) (hl : hs.length = ll.length)
    (hr : ∀ i, i < ll.length → IsI w (hs.getD i nilS) (ll.getD i [])) : IsR w v (x :: ll) := by
  refine isR_heads9 (hs := [u] ++ hs) h (by simp [hl]) fun i hi => ?_
  cases i with
  | zero => exact hu
  | succ i => exact hr i (by simpa using hi)
theorem sliceHeadR (B : Option Addr) (n d k : Nat) (hk : k ≤ n) (hn : n ≤ d) : ∀ w, (Instr.sliceAt TII (.slice B n d) none (some (.int .i64 (k : Int))) none).run Try.prog w = .ok (.slice B k d) w := fun w => by
  obtain ⟨i0, hi0, hz0, hs0, hs1⟩ := info_parts (P := Try.prog) (e := TI) (z := .slice none 0 0) (size := 1) (bytes := 24) (by kernel_rfl)
  have hu : Try.prog.underlying TII = some (.slice TI) := Try.underlying23
  have he : Try.prog.elem TII = TI := by simp [Program.elem, hu]
  rw [run_sliceAt_slice w TII _ _ _ _ (by rw [he]; exact hu), run_slice_h w TII B n d (by rw [he]; exact hu) .i64 (k : Int) (by omega) (by omega)]
  rw [he]
  cases B
  · simp [sizeOf, typeInfo, hi0, hs0, sliced, Result.andThen]
  · simp [sizeOf, typeInfo, hi0, hs0, sliced, Result.andThen, Addr.add]
theorem isM_heads9 {w : World} {v : Value} {hs : List Value} {B : Nat} {ll : List (List Bool)} (h : Own1 TBS w B v hs) (hl : hs.length = ll.length)
    (hr : ∀ i, i < ll.length → IsB1 w (hs.getD i nilS) (ll.getD i [])) : IsM w v ll := by
  obtain ⟨A, c, hv, h1, h2, h3, _⟩ := h.form
  rw [hl] at hv h1
  refine ⟨A, c, hv, h1, h2, hs, hl, h3, fun i hi => ?_⟩
  obtain ⟨Ai, ci, e, h4, h5, h6⟩ := hr i hi
  refine ⟨Ai, ci, ?_, h4, h5, h6⟩
  rw [← e, List.getD_eq_getElem?_getD, List.getElem?_eq_getElem (by omega)]; rfl
theorem IsM.heads9 {w : World} {A : Option Addr} {n c : Nat} {ll : List (List Bool)} (h : IsM w (.slice A n c) ll) : ∃ hs : List Value, hs.length = ll.length ∧ n = ll.length ∧ n ≤ c ∧ c ≤ maxLen ∧ Row w w.heap.size A hs ∧ ∀ i, i < ll.length → IsB1 w (hs.getD i nilS) (ll.getD i []) := by
  obtain ⟨A', c', e, h1, h2, hs, h3, h4, h5⟩ := h
  injection e with e1 e2 e3
  subst e1 e3
  refine ⟨hs, h3, e2, by omega, h2, h4, fun i hi => ?_⟩
  obtain ⟨Ai, ci, e, k1, k2, k3⟩ := h5 i hi
  exact ⟨Ai, ci, by rw [List.getD_eq_getElem?_getD, e]; rfl, k1, k2, k3⟩
theorem heads_oneM {w : World} {hs : List Value} {ll : List (List Bool)} (hl : hs.length = ll.length) (h : ∀ i, i < ll.length → IsB1 w (hs.getD i nilS) (ll.getD i [])) : ∀ u ∈ hs, u.oneCell' = true := by
  intro u hu
  obtain ⟨i, hi, rfl⟩ := List.getElem_of_mem hu
  obtain ⟨A, c, e, _⟩ := h i (by omega)
  have e2 : hs.getD i nilS = hs[i] := by rw [List.getD_eq_getElem?_getD, List.getElem?_eq_getElem hi]; rfl
  rw [← e2, e]; rfl
theorem heads_putM {w : World} {v : Value} {hs : List Value} {B : Nat} {x : List Bool} {ll : List (List Bool)} {u : Value} (h : Own1 TBS w B v ([u] ++ hs)) (hu : IsB1 w u x) (hl : hs.length = ll.length)
    (hr : ∀ i, i < ll.length → IsB1 w (hs.getD i nilS) (ll.getD i [])) : IsM w v (x :: ll) := by
  refine isM_heads9 (hs := [u] ++ hs) h (by simp [hl]) fun i hi => ?_
  cases i with
  | zero => exact hu
  | succ i => exact hr i (by simpa using hi)
theorem sliceHeadM (B : Option Addr) (n d k : Nat) (hk : k ≤ n) (hn : n ≤ d) : ∀ w, (Instr.sliceAt TBSS (.slice B n d) none (some (.int .i64 (k : Int))) none).run Try.prog w = .ok (.slice B k d) w := fun w => by
  obtain ⟨i0, hi0, hz0, hs0, hs1⟩ := info_parts (P := Try.prog) (e := TBS) (z := .slice none 0 0) (size := 1) (bytes := 24) (by kernel_rfl)
  have hu : Try.prog.underlying TBSS = some (.slice TBS) := Try.underlying24
  have he : Try.prog.elem TBSS = TBS := by simp [Program.elem, hu]
  rw [run_sliceAt_slice w TBSS _ _ _ _ (by rw [he]; exact hu), run_slice_h w TBSS B n d (by rw [he]; exact hu) .i64 (k : Int) (by omega) (by omega)]
  rw [he]
  cases B
  · simp [sizeOf, typeInfo, hi0, hs0, sliced, Result.andThen]
  · simp [sizeOf, typeInfo, hi0, hs0, sliced, Result.andThen, Addr.add]
set_option maxRecDepth 100000 in
set_option maxHeartbeats 4000000 in
theorem w_HighOrder (A : Option Addr) (n c : Nat) (hnc : n ≤ c) (hn : n ≤ maxLen) (w : World) (hb : Bytes w w.heap.size A n) :
    Calls Try.prog 7 #[.slice A n c] w fun e w' => e = .returned (.bool true) ∧ Below w.heap.size w w' := by
  have hn2 := hn
  unfold maxLen at hn2
  rcases (show 1048576 < n ∨ ¬ 1048576 < n by omega) with hbig | hbig
  · go_enter Try.func7, Try.ntmps7
    go_wp2
    go_ret
    exact ⟨rfl, Below.refl _ _⟩
  · go_enter Try.func7, Try.ntmps7
    go_wp2_with fail
    refine (dBoundHigh_any A n c hnc hn _ hb).mono ?_
    rintro e W ⟨tv, uv, t, m, i, j, rfl, ht, hu, hl, hlr, hml, hmr, hbW⟩
    have HT := Lib.hid ht
    have HU := Lib.hid hu
    have HBW := Lib.hid hbW
    obtain ⟨g, hg⟩ : ∃ g, hiI t m i j = g := ⟨_, rfl⟩
    have HG := Lib.hid hg
    clear hb ht hu hbW hl hlr hml hmr hg hn
    go_wp2_with fail
    refine (iHigh_is W t _ HT.out m _ HU.out i j g HG.out _ (Below.refl _ _)).mono ?_
    rintro e w1 ⟨rfl, b1⟩
    go_wp2_with fail
    refine (sHigh_is W t _ HT.out m _ HU.out i j g HG.out _ b1).mono ?_
    rintro e w2 ⟨rfl, b2⟩
    by_cases hneg : g < 0
    · go_wp2
      go_ret
      exact ⟨rfl, HBW.out.trans (b2.mono HBW.out.size)⟩
    have hok : bOk t m i j = true := by
      cases e : bOk t m i j
      · exfalso; have h9 := HG.out; rw [hiI, if_neg (by simp [e])] at h9; omega
      · rfl
    obtain ⟨hmk, hi0, hiq, hj0, hjd⟩ := bOk_iff.1 hok
    obtain ⟨a, rfl⟩ := Int.eq_ofNat_of_zero_le hi0
    obtain ⟨b, rfl⟩ := Int.eq_ofNat_of_zero_le hj0
    obtain ⟨htb, hml, hmr⟩ := mk_parts.1 hmk
    have haq : a < t.length := by omega
    have hbd : b < wd t := by omega
    have HMK := Lib.hid hmk
    have HTB := Lib.hid htb
    have HAQ := Lib.hid haq
    have HBD := Lib.hid hbd
    have HML := Lib.hid (show m.length ≤ 1000 by have := htb.h4; omega)
    have HMR := Lib.hid (show ∀ r ∈ m, r.length ≤ 100000 from fun r hr => by have := hmr r hr; have := htb.w4; omega)
    have HTL := Lib.hid (show t.length ≤ 1000 by have := htb.h4; omega)
    have HTD := Lib.hid htb.len
    have HTD6 := Lib.hid (show wd t ≤ 1000 by have := htb.w4; omega)
    have HTR := Lib.hid (show ∀ r ∈ t, r.length ≤ 100000 from fun r hr => by have := htb.len r hr; have := htb.w4; omega)
    clear hok hi0 hj0 b1
    have ht1 := htb.h1
    have ht4 := htb.h4
    have hw1 := htb.w1
    have hw4 := htb.w4
    have HT2 := Lib.hid (HT.out.below b2)
    have HU2 := Lib.hid (HU.out.below b2)
    obtain ⟨bt, ot, ct, tb, to, tc, htv, htall⟩ := HT2.out.all htb
    obtain ⟨bm, om, cm, mb, mo, mc, huv, hmall⟩ := HU2.out.all (d := wd t) (by omega) hw1 hmr
    rw [hml] at huv
    subst htv huv
    obtain ⟨q, hq⟩ : ∃ q, t.length = q := ⟨_, rfl⟩
    obtain ⟨d, hd⟩ : ∃ d, wd t = d := ⟨_, rfl⟩
    have HQ := Lib.hid hq
    have HD := Lib.hid hd
    rw [hml, hq, hd] at hmall
    rw [hq, hd] at htall
    have HTA := Lib.hid (show ∀ w', Below w2.heap.size w2 w' → w'.cell? ⟨bt, ot, none⟩ = some (.slice (some ⟨tb 0, to 0, none⟩) d (tc 0)) ∧ (∀ i, i < q → w'.cell? ⟨bt, ot + i, none⟩ = some (.slice (some ⟨tb i, to i, none⟩) d (tc i))) ∧ ∀ i j, i < q → j < d → w'.cell? ⟨tb i, to i + j, none⟩ = some (.int .i64 (cF t i j)) from
      fun w' h => ⟨(htall w' h).1 0 (by omega), htall w' h⟩)
    have HUA := Lib.hid hmall
    rw [hq] at HT2 HU2 hiq ht1 ht4 haq ⊢
    rw [hd] at hw1 hw4 hbd hjd
    have hq0i : (0 : Int) < (q : Int) := by omega
    have hq0 : 0 < q := ht1
    have HB2 := Lib.hid b2
    have HBB := Lib.hid (show ∀ w', Below w2.heap.size w2 w' → Below w.heap.size w w' from fun w' h => HBW.out.trans ((below_step HB2.out h).mono HBW.out.size))
    clear htall hmall hmk hml hmr htb hq hd b2
    obtain ⟨g2, hg2⟩ : ∃ g, loI t m a b = g := ⟨_, rfl⟩
    have HG2 := Lib.hid hg2
    have hmlq : m.length = q := by rw [← HQ.out]; exact mk_len HMK.out
    obtain ⟨p, hp⟩ : ∃ p, q - 1 = p := ⟨_, rfl⟩
    have hpq : p < q := by omega
    have hpi : (p : Int) < (q : Int) := by omega
    have hwq : IntKind.i64.wrap ((q : Int) - 1) = (p : Int) := by rw [IntKind.wrap_i64]; omega
    obtain ⟨x, hx⟩ : ∃ x, t.getD p [] :: t.take p = x := ⟨_, rfl⟩
    obtain ⟨m', hm'⟩ : ∃ x, m.getD p [] :: m.take p = x := ⟨_, rfl⟩
    have HXX := Lib.hid hx
    have HMM := Lib.hid hm'
    have hxg : ∀ k, k < q → x.getD k [] = t.getD (rotR q k) [] := fun k hk => by rw [← hx, ← hp]; exact rot_get t HQ.out hk
    have hmg : ∀ k, k < q → m'.getD k [] = m.getD (rotR q k) [] := fun k hk => by rw [← hm', ← hp]; exact rot_get m hmlq hk
    have hxl : x.length = t.length := by rw [← hx, List.length_cons, List.length_take, HQ.out]; omega
    have hml2 : m'.length = t.length := by rw [← hm', List.length_cons, List.length_take, hmlq, HQ.out]; omega
    have hxm : ∀ r ∈ x, r ∈ t := fun r hr => rot_mem HQ.out hq0 (by rw [hp, hx]; exact hr)
    have hmm : ∀ r ∈ m', r ∈ m := fun r hr => rot_mem hmlq hq0 (by rw [hp, hm']; exact hr)
    have hwx : wd x = wd t := wd_of (by rw [hxl]; exact HTB.out.h1) (fun r hr => HTB.out.len r (hxm r hr))
    have hok : mkOk x m' = true := mk_parts.2 ⟨⟨by rw [hxl]; exact HTB.out.h1, by rw [hxl]; exact HTB.out.h4, by rw [hwx]; exact HTB.out.w1, by rw [hwx]; exact HTB.out.w4, fun r hr => by rw [hwx]; exact HTB.out.len r (hxm r hr), fun r hr => HTB.out.bd r (hxm r hr)⟩, by rw [hml2, hxl], fun r hr => by rw [hwx]; exact (mk_parts.1 HMK.out).2.2 r (hmm r hr)⟩
    obtain ⟨h3, h4⟩ := m_order HMK.out hok hxl hwx (fun k l hk _ => by unfold cF; rw [hxg k (by rw [← HQ.out]; exact hk), HQ.out]) (fun k l hk _ => by unfold hF; rw [hmg k (by rw [← HQ.out]; exact hk), HQ.out]) HAQ.out HBD.out
    rw [HG.out, HQ.out] at h3
    rw [HG2.out, HQ.out] at h4
    obtain ⟨s, hs⟩ : ∃ s, rotS q a = s := ⟨_, rfl⟩
    rw [hs] at h3 h4
    have HG3 := Lib.hid h3
    have HG4 := Lib.hid h4
    have hwa : IntKind.i64.wrap ((a : Int) + 1) = (a : Int) + 1 := by rw [IntKind.wrap_i64]; omega
    have hsa : ((a : Int) + 1) % (q : Int) = (s : Int) := by
      rw [← hs]; unfold rotS
      split
      · rename_i e
        rw [show (a : Int) + 1 = (q : Int) by omega]; simp
      · rw [Int.emod_eq_of_lt (by omega) (by omega)]; omega
    have hsb : ((a : Int) + 1).tmod (q : Int) = (s : Int) := by rw [Int.tmod_eq_emod_of_nonneg (by omega)]; exact hsa
    have hqz : ¬ (q : Int) = 0 := by omega
    have HSA := Lib.hid hsa
    have HSB := Lib.hid hsb
    have HWA := Lib.hid hwa
    have HMLQ := Lib.hid hmlq
    clear hg2 hx hm' hxg hmg hxl hml2 hxm hmm hwx hok h3 h4 hs hsa hsb hwa hp
    obtain ⟨hs8, hl8, hnq8, hc8, hcm8, hrow8, hii8⟩ := (HT2.out).heads9
    clear hnq8 hcm8
    have hone8 := heads_oneR hl8 hii8
    have e0 := (HTA.out _ (Below.refl _ _)).2.1 p hpq
    obtain ⟨r18, hr18⟩ : ∃ z, tb p = z := ⟨_, rfl⟩
    obtain ⟨r28, hr28⟩ : ∃ z, to p = z := ⟨_, rfl⟩
    obtain ⟨r38, hr38⟩ : ∃ z, tc p = z := ⟨_, rfl⟩
    rw [hr18, hr28, hr38] at e0
    have hsp8 : hs8.getD p nilS = .slice (some ⟨r18, r28, none⟩) d r38 := by
      have h9 := row_cell hrow8 (k := p) (by rw [hl8, HQ.out]; exact hpq)
      rw [e0] at h9
      injection h9 with h9
      exact h9.symm
    have HI8 := Lib.hid (show IsI w2 (.slice (some ⟨r18, r28, none⟩) d r38) (t.getD p []) by rw [← hsp8]; exact hii8 p (by rw [HQ.out]; exact hpq))
    have hsl : ∀ w, (Instr.sliceAt TII (.slice (some ⟨bt, ot, none⟩) q ct) none (some (.int .i64 (p : Int))) none).run Try.prog w = .ok (.slice (some ⟨bt, ot, none⟩) p ct) w := sliceHeadR _ q ct p (by omega) hc8
    have HLP8 := Lib.hid (show p = (hs8.take p).length from by rw [List.length_take, hl8, HQ.out]; omega)
    have hrt8 := row_take hrow8 p
    have hot8 : ∀ u ∈ hs8.take p, u.oneCell' = true := fun u hu => hone8 u (List.mem_of_mem_take hu)
    have HLT8 := Lib.hid (show (hs8.take p).length = (t.take p).length by rw [List.length_take, List.length_take, hl8])
    have HIT8 := Lib.hid (show ∀ i, i < (t.take p).length → IsI w2 ((hs8.take p).getD i nilS) ((t.take p).getD i []) from fun i hi => by
      rw [List.length_take] at hi
      rw [take_getD _ _ (by omega), take_getD _ _ (by omega)]
      exact hii8 i (by omega))
    have HFF8 := Lib.hid (show ∀ w', Below w2.heap.size w2 w' → (Below w2.heap.size w2 w' ∧ w'.cell? ⟨bt, ot + p, none⟩ = some (.slice (some ⟨r18, r28, none⟩) d r38)) from
      fun w' h => ⟨h, (h.cell (p := ⟨bt, ot + p, none⟩) (World.block_lt_of_cell? _ _ e0)).trans e0⟩)
    have b0 : Below w2.heap.size w2 w2.drew := (Below.refl _ _).drew
    have bA : Below w2.heap.size w2 ((w2.alloc (.cells #[.slice (some ⟨r18, r28, none⟩) d r38] TI)).drew) := ((Below.refl _ _).alloc (Nat.le_refl _) _).drew
    have oA : Own1 TI ((w2.alloc (.cells #[.slice (some ⟨r18, r28, none⟩) d r38] TI)).drew) w2.heap.size (.slice (some ⟨w2.heap.size, 0, none⟩) 1 1) [.slice (some ⟨r18, r28, none⟩) d r38] := own1_lit #[.slice (some ⟨r18, r28, none⟩) d r38] (Nat.le_refl _) (by simp)
    clear hii8 hone8 hsp8 hr18 hr28 hr38 hc8 hl8
    go_wp2_with fail
    go_region_held3 (fun w' => Below w2.heap.size w2 w' ∧ w'.cell? ⟨bt, ot + p, none⟩ = some (.slice (some ⟨r18, r28, none⟩) d r38))
      (first | exact HFF8.out _ (by assumption) | exact HFF8.out _ b0 | exact HFF8.out _ bA)
      (first
        | (refine step1 one_II rfl (.tmp 49) (.tmp 53) rfl w2.heap.size (.slice (some ⟨w2.heap.size, 0, none⟩) 1 1) [.slice (some ⟨r18, r28, none⟩) d r38] rfl oA w2.heap.size (some ⟨bt, ot, none⟩) p ct (hs8.take p) HLP8.out rfl (hrt8.below bA (Nat.le_refl _)) hot8 (by rw [← HLP8.out]; simp; omega) bA.size ?_
           intro v8 w8 ho8 hg8 hx8
           clear hx8
           have hb8 : Below w2.heap.size w2 w8 := below_own1 bA oA hg8
           have HX8 := Lib.hid (heads_putR ho8 (HI8.out.below hb8) HLT8.out (fun i hi => (HIT8.out i hi).below hb8))
           clear ho8 hg8))
    rw [HXX.out] at HX8
    clear hsl b0 bA oA e0 hrt8 hot8
    obtain ⟨hs9, hl9, hnq9, hc9, hcm9, hrow9, hii9⟩ := (HU2.out.below hb8).heads9
    clear hnq9 hcm9
    have hone9 := heads_oneM hl9 hii9
    have e0 := (HUA.out _ hb8).1 p hpq
    obtain ⟨r19, hr19⟩ : ∃ z, mb p = z := ⟨_, rfl⟩
    obtain ⟨r29, hr29⟩ : ∃ z, mo p = z := ⟨_, rfl⟩
    obtain ⟨r39, hr39⟩ : ∃ z, mc p = z := ⟨_, rfl⟩
    rw [hr19, hr29, hr39] at e0
    have hsp9 : hs9.getD p nilS = .slice (some ⟨r19, r29, none⟩) d r39 := by
      have h9 := row_cell hrow9 (k := p) (by rw [hl9, HMLQ.out]; exact hpq)
      rw [e0] at h9
      injection h9 with h9
      exact h9.symm
    have HI9 := Lib.hid (show IsB1 w8 (.slice (some ⟨r19, r29, none⟩) d r39) (m.getD p []) by rw [← hsp9]; exact hii9 p (by rw [HMLQ.out]; exact hpq))
    have hsl : ∀ w, (Instr.sliceAt TBSS (.slice (some ⟨bm, om, none⟩) q cm) none (some (.int .i64 (p : Int))) none).run Try.prog w = .ok (.slice (some ⟨bm, om, none⟩) p cm) w := sliceHeadM _ q cm p (by omega) hc9
    have HLP9 := Lib.hid (show p = (hs9.take p).length from by rw [List.length_take, hl9, HMLQ.out]; omega)
    have hrt9 := row_take hrow9 p
    have hot9 : ∀ u ∈ hs9.take p, u.oneCell' = true := fun u hu => hone9 u (List.mem_of_mem_take hu)
    have HLT9 := Lib.hid (show (hs9.take p).length = (m.take p).length by rw [List.length_take, List.length_take, hl9])
    have HIT9 := Lib.hid (show ∀ i, i < (m.take p).length → IsB1 w8 ((hs9.take p).getD i nilS) ((m.take p).getD i []) from fun i hi => by
      rw [List.length_take] at hi
      rw [take_getD _ _ (by omega), take_getD _ _ (by omega)]
      exact hii9 i (by omega))
    have HFF9 := Lib.hid (show ∀ w', Below w8.heap.size w8 w' → (Below w8.heap.size w8 w' ∧ w'.cell? ⟨bm, om + p, none⟩ = some (.slice (some ⟨r19, r29, none⟩) d r39)) from
      fun w' h => ⟨h, (h.cell (p := ⟨bm, om + p, none⟩) (World.block_lt_of_cell? _ _ e0)).trans e0⟩)
    have b0 : Below w8.heap.size w8 w8.drew := (Below.refl _ _).drew
    have bA : Below w8.heap.size w8 ((w8.alloc (.cells #[.slice (some ⟨r19, r29, none⟩) d r39] TBS)).drew) := ((Below.refl _ _).alloc (Nat.le_refl _) _).drew
    have oA : Own1 TBS ((w8.alloc (.cells #[.slice (some ⟨r19, r29, none⟩) d r39] TBS)).drew) w8.heap.size (.slice (some ⟨w8.heap.size, 0, none⟩) 1 1) [.slice (some ⟨r19, r29, none⟩) d r39] := own1_lit #[.slice (some ⟨r19, r29, none⟩) d r39] (Nat.le_refl _) (by simp)
    clear hii9 hone9 hsp9 hr19 hr29 hr39 hc9 hl9
    go_wp2_with fail
    go_region_held3 (fun w' => Below w8.heap.size w8 w' ∧ w'.cell? ⟨bm, om + p, none⟩ = some (.slice (some ⟨r19, r29, none⟩) d r39))
      (first | exact HFF9.out _ (by assumption) | exact HFF9.out _ b0 | exact HFF9.out _ bA)
      (first
        | (refine step1 one_BSS rfl (.tmp 60) (.tmp 64) rfl w8.heap.size (.slice (some ⟨w8.heap.size, 0, none⟩) 1 1) [.slice (some ⟨r19, r29, none⟩) d r39] rfl oA w8.heap.size (some ⟨bm, om, none⟩) p cm (hs9.take p) HLP9.out rfl (hrt9.below bA (Nat.le_refl _)) hot9 (by rw [← HLP9.out]; simp; omega) bA.size ?_
           intro v9 w9 ho9 hg9 hx9
           clear hx9
           have hb9 : Below w8.heap.size w8 w9 := below_own1 bA oA hg9
           have HX9 := Lib.hid (heads_putM ho9 (HI9.out.below hb9) HLT9.out (fun i hi => (HIT9.out i hi).below hb9))
           clear ho9 hg9))
    rw [HMM.out] at HX9
    clear hsl b0 bA oA e0 hrt9 hot9
    have hwa := HWA.out
    have hsa := HSA.out
    have hsb := HSB.out
    have hb29 := below_step hb8 hb9
    have HX9' := Lib.hid (HX8.out.below hb9)
    have HT9 := Lib.hid (HT2.out.below hb29)
    have HU9 := Lib.hid (HU2.out.below hb29)
    have HB29 := Lib.hid hb29
    clear hb29 hb9 hb8
    go_wp2_with fail
    refine (iHigh_is w9 x _ HX9'.out m' _ HX9.out s b g HG3.out _ (by first | exact Below.refl _ _ | exact (Below.refl _ _).drew)).mono ?_
    rintro e y1 ⟨rfl, k1⟩
    go_wp2_with fail
    refine (iLow_is w9 x _ HX9'.out m' _ HX9.out s b g2 HG4.out _ k1).mono ?_
    rintro e y2 ⟨rfl, k2⟩
    go_wp2_with fail
    refine (iLow_is w9 t _ HT9.out m _ HU9.out a b g2 HG2.out _ k2).mono ?_
    rintro e y3 ⟨rfl, k3⟩
    have HK := Lib.hid (HBB.out _ (below_step HB29.out k3))
    clear k1 k2 k3
    go_wp2
    all_goals
      go_ret
      exact ⟨by first | rfl | exact retb (by simp), HK.out⟩
end Go.Proofs.Ytdjjkfhdgnlkeaa
