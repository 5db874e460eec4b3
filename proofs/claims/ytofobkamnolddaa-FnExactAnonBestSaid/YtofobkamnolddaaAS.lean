/- Contracts of the model: anonymity. -/
import Derived.Test.YtofobkamnolddaaAM
import Derived.Test.YtofobkamnolddaaGC
import Derived.Maps.AppendAt
namespace Go.Proofs.Ytofobkamnolddaa
open Go.RowKit
/-- How many of the first ones are in small groups. -/
def dropAt (x : List Pn) (k : Int) (n : Nat) : Nat := ((x.take n).filter fun p => !bigP x k p).length
theorem dropAt_succ (x : List Pn) (k : Int) (n : Nat) (hn : n < x.length) : dropAt x k (n + 1) = dropAt x k n + if (sizeAt x n : Int) < k then 1 else 0 := by
  unfold dropAt
  rw [List.take_succ_eq_append_getElem hn, List.filter_append, List.length_append]
  congr 1
  have e : x.getD n p00 = x[n] := by rw [List.getD_eq_getElem?_getD, List.getElem?_eq_getElem hn]; rfl
  rw [sizeAt, e]
  by_cases h : (cn (keys x) (key x[n]) : Int) < k
  · have h2 : bigP x k x[n] = false := by rw [bigP, big, decide_eq_false_iff_not]; omega
    simp [h, h2]
  · have h2 : bigP x k x[n] = true := by rw [bigP, big, decide_eq_true_eq]; omega
    simp [h, h2]
theorem dropAt_all (x : List Pn) (k : Int) : dropAt x k x.length = dropN (keys x) k := by
  unfold dropAt dropN keys
  rw [List.take_length, List.filter_map, List.length_map]; rfl
theorem dropAt_le (x : List Pn) (k : Int) (n : Nat) : dropAt x k n ≤ n := by
  have h1 := List.length_filter_le (fun p => !bigP x k p) (x.take n)
  have h2 := List.length_take_le n x
  unfold dropAt; omega
theorem sDrop4_is (W : World) (x : List Pn) (v : Value) (hv : IsP W v x) (hx6 : x.length ≤ 1000000) (k : Int) (g : Int) (hg : (dropN (keys x) k : Nat) = g) (w : World) (hb : Below W.heap.size W w) :
    Calls Try.prog 32 #[v, .int .i64 k] w (Back (.int .i64 g) W) := by
  obtain ⟨A, c, rfl, a1, a2, a3⟩ := hv
  obtain ⟨q, hq⟩ : ∃ q, q = x.length := ⟨_, rfl⟩
  rw [← hq] at a1 ⊢
  have HR := Lib.hid a3; clear a3
  have HQ := Lib.hid hq
  have HG := Lib.hid hg; clear hg
  have hq6 : q ≤ 1000000 := by omega
  clear hq
  go_enter Try.func32, Try.ntmps32
  go_wp2
  go_loopw [5, 6] (fun v i wr => ∃ j : Nat, j ≤ q ∧ i = .int .i64 j ∧ v = .int .i64 (dropAt x k j) ∧ Below W.heap.size W wr) (fun _ i _ => q - (intOf i).toNat)
  case atStart => exact ⟨0, Nat.zero_le _, rfl, by simp [dropAt], hb⟩
  case round =>
    obtain ⟨j, hj, rfl, rfl, hb⟩ := hrel
    have hle := dropAt_le x k j
    by_cases hlt : j < q
    · have hji : (j : Int) < (q : Int) := by omega
      have hjx : j < x.length := by rw [← HQ.out]; exact hlt
      have HS := Lib.hid (dropAt_succ x k j hjx)
      obtain ⟨s, hs⟩ : ∃ s, dropAt x k j = s := ⟨_, rfl⟩
      rw [hs] at hle HS ⊢
      clear hs
      obtain ⟨z, hz⟩ : ∃ z, sizeAt x j = z := ⟨_, rfl⟩
      rw [hz] at HS
      have HZ := Lib.hid hz; clear hz
      go_wp2_with fail
      refine (sSize_at W x q HQ.out A c j hlt hx6 z HZ.out HR.out _ hb).mono ?_
      rintro e w3 ⟨rfl, hb3⟩
      by_cases hz1 : (z : Int) < k
      · rw [if_pos hz1] at HS
        go_wp2
        go_roundw
        case rel => exact ⟨j + 1, by omega, by go_num, by rw [HS.out]; go_num, hb3⟩
        case measure => simp [intOf]; omega
      · rw [if_neg hz1] at HS
        go_wp2
        go_roundw
        case rel => exact ⟨j + 1, by omega, by go_num, by rw [HS.out]; simp, hb3⟩
        case measure => simp [intOf]; omega
    · have hjq : j = x.length := by rw [← HQ.out]; omega
      have hall := dropAt_all x k
      rw [← hjq] at hall
      rw [hall]
      go_wp2
      go_ret
      exact ⟨reti HG.out, hb⟩
/-- What a call with people, a ladder and a recoding begins with: the recoding lies in a block of its own. -/
theorem boxed {W w : World} (hb : Below W.heap.size W w) (r : Rc) : ∃ W1, W1 = w.alloc (.cells #[.int .i64 r.area, .int .i64 r.job, .int .i64 r.sex] TRc) ∧ Below W.heap.size W W1 ∧ w.heap.size < W1.heap.size ∧
    ∀ w', Below W1.heap.size W1 w' → w'.cell? ⟨w.heap.size, 0, none⟩ = some (.int .i64 r.area) ∧ w'.cell? ⟨w.heap.size, 1, none⟩ = some (.int .i64 r.job) ∧ w'.cell? ⟨w.heap.size, 2, none⟩ = some (.int .i64 r.sex) := by
  have hz : w.heap.size < (w.alloc (.cells #[.int .i64 r.area, .int .i64 r.job, .int .i64 r.sex] TRc)).heap.size := by simp
  refine ⟨_, rfl, hb.alloc hb.size _, hz, fun w' h => ⟨(h.cell (p := ⟨w.heap.size, 0, none⟩) hz).trans ?_, (h.cell (p := ⟨w.heap.size, 1, none⟩) hz).trans ?_, (h.cell (p := ⟨w.heap.size, 2, none⟩) hz).trans ?_⟩⟩ <;> simp [go_sem]
set_option maxHeartbeats 1000000 in
theorem sADrop_is (W : World) (l : List Pn) (v : Value) (hv : IsP W v l) (ll : List (List Int)) (u : Value) (hu : IsR W u ll) (r : Rc) (k : Int) (g : Int) (hg : adrop l ll r k = g) (w : World) (hb : Below W.heap.size W w) :
    Calls Try.prog 10 #[v, u, r.val, .int .i64 k] w (Back (.int .i64 g) W) := by
  obtain ⟨W1, hW, hb1, hz, hc⟩ := boxed hb r
  have HC := Lib.hid hc
  have HV := Lib.hid (hv.below hb1)
  have HU := Lib.hid (hu.below hb1)
  have HG := Lib.hid hg
  clear hv hu hb hg
  go_enter Try.func10, Try.ntmps10
  go_wp2_with fail
  rw [← hW]
  clear hW hc
  refine (sRecP_is W1 l v HV.out ll u HU.out r (recOut l ll r) (grOk l ll r) rfl rfl _ (Below.refl _ _)).mono ?_
  rintro e w2 ⟨x, rfl, hx, h2⟩
  have hb2 := hb1.trans (h2.mono hb1.size)
  cases hok : grOk l ll r
  · have HE := Lib.hid (show g = -1 by rw [← HG.out, adrop_no]; rw [adOk, hok]; rfl)
    clear hok hx
    go_wp2
    go_ret
    exact ⟨reti HE.out.symm, hb2⟩
  have HX := Lib.hid (show IsP w2 x (recL ll r l) by have h := hx.is; rwa [recOut, if_pos hok] at h)
  have HL := Lib.hid (show (recL ll r l).length ≤ 1000000 by have := (okL_all (gr_parts.1 hok).1).1; rw [recL_len]; omega)
  have HOK := Lib.hid hok
  clear hok hx
  go_wp2_with fail
  refine (l6In_any k 1 40 _).mono ?_
  rintro e w' ⟨rfl, rfl⟩
  cases hk : in3 k 1 40
  · have HE := Lib.hid (show g = -1 by rw [← HG.out, adrop_no]; rw [adOk, hk, Bool.and_false])
    clear hk
    go_wp2
    go_ret
    exact ⟨reti HE.out.symm, hb2⟩
  have hka : adOk l ll r k = true := by rw [adOk, HOK.out, hk]; rfl
  have HE := Lib.hid (show ((dropN (keys (recL ll r l)) k : Nat) : Int) = g by rw [← HG.out, adrop_at hka]; rfl)
  clear hka
  clear hk
  go_wp2_with fail
  refine (sDrop4_is w2 (recL ll r l) x HX.out HL.out k g HE.out _ (Below.refl _ _)).mono ?_
  rintro e w3 ⟨rfl, h3⟩
  go_wp2
  go_ret
  exact ⟨rfl, hb2.trans (h3.mono hb2.size)⟩
theorem sAOk_is (W : World) (l : List Pn) (v : Value) (hv : IsP W v l) (ll : List (List Int)) (u : Value) (hu : IsR W u ll) (r : Rc) (k : Int) (g : Bool) (hg : aok l ll r k = g) (w : World) (hb : Below W.heap.size W w) :
    Calls Try.prog 17 #[v, u, r.val, .int .i64 k] w (Back (.bool g) W) := by
  obtain ⟨W1, hW, hb1, hz, hc⟩ := boxed hb r
  have HV := Lib.hid (hv.below hb1)
  have HU := Lib.hid (hu.below hb1)
  have HG := Lib.hid hg
  clear hv hu hb hg
  obtain ⟨d, hd⟩ : ∃ d, adrop l ll r k = d := ⟨_, rfl⟩
  have HD := Lib.hid hd
  have HE := Lib.hid (show g = decide (d = 0) by rw [← HG.out, aok, hd])
  clear hd
  go_enter Try.func17, Try.ntmps17
  go_wp2_with fail
  rw [← hW]
  clear hW hc
  refine (sADrop_is W1 l v HV.out ll u HU.out r k d HD.out _ (Below.refl _ _)).mono ?_
  rintro e w2 ⟨rfl, h2⟩
  go_wp2
  go_ret
  exact ⟨retb (by rw [HE.out, Bool.eq_iff_iff]; simp), hb1.trans (h2.mono hb1.size)⟩
theorem sACost_is (W : World) (ll : List (List Int)) (u : Value) (hu : IsR W u ll) (r : Rc) (g : Int) (hg : acost ll r = g) (w : World) (hb : Below W.heap.size W w) :
    Calls Try.prog 24 #[u, r.val] w (Back (.int .i64 g) W) := by
  obtain ⟨W1, hW, hb1, hz, hc⟩ := boxed hb r
  have HC := Lib.hid hc
  have HU := Lib.hid (hu.below hb1)
  have HG := Lib.hid hg
  clear hu hb hg
  go_enter Try.func24, Try.ntmps24
  go_wp2_with fail
  rw [← hW]
  clear hW hc
  refine (sRcValid_is W1 ll u HU.out r _ rfl _ (Below.refl _ _)).mono ?_
  rintro e w2 ⟨rfl, h2⟩
  have hb2 := hb1.trans (h2.mono hb1.size)
  obtain ⟨c0, c1, c2⟩ := HC.out _ h2
  cases hok : rcOk ll r
  · have HE := Lib.hid (show g = -1 by rw [← HG.out, acost, hok]; rfl)
    clear hok
    go_wp2
    go_ret
    exact ⟨reti HE.out.symm, hb2⟩
  have hp := rc_parts hok
  have hl3 := lad_len hp.1
  have hr0 : 0 ≤ r.area ∧ r.area ≤ 3 ∧ 0 ≤ r.job ∧ r.job ≤ 1 ∧ 0 ≤ r.sex ∧ r.sex ≤ 1 := by omega
  have HE := Lib.hid (show g = r.area + r.job + r.sex by rw [← HG.out, acost_at hok])
  clear hok hp hl3
  go_wp2
  go_ret
  exact ⟨reti (by rw [HE.out]), hb2⟩
theorem run_append_people_at (w : World) (ty : TypeId) (base : Nat) (v : Value) (l : List Pn) (hown : Own w base v l) (Bd : Nat) (ad : Addr) (m d : Nat) (l2 : List Pn) (hm : m = l2.length) (hr : Row w Bd (some ad) (pcells l2))
    (hlen : l.length + l2.length ≤ 1000000) (hbase : base ≤ w.heap.size) :
    ∃ v' w', (Builtin.append_ #[TPS, TPS] ty #[v, .slice (some ad) m d]).run Try.prog w = .ok v' w' ∧ Own w' base v' (l ++ l2) ∧ w.grownBy w' v.ownBlock ∧ (v'.ownBlock = v.ownBlock ∨ v'.ownBlock = some w.heap.size) := by
  subst hm
  obtain ⟨i0, hi0, hz0, hz1, hz2⟩ := info_parts info_P
  have ht : Try.prog.underlying TPS = some (.slice TP) := Try.underlying29
  have hl : (pcells l2).length = l2.length * 4 := pcells_length l2
  have hcells : ∀ j u, (pcells l2)[j]? = some u → w.cell? (ad.add j) = some u := by
    intro j u hu
    rcases hr with hr | ⟨b, o, hA, hb, hc⟩
    · rw [hr] at hu; simp at hu
    · injection hA with hA
      subst hA
      rw [Addr.add_lit]; exact hc j u hu
  obtain ⟨v', w', hrun, h2, h3, _, h5⟩ := run_append_own_at (P := Try.prog) w base TPS ty TP i0 _ 4 32 ht hi0 hz0 hz1 hz2 rfl (by omega) v l.length (pcells l) hown ad l2.length d (pcells l2) hl hcells (pcells_one_cell l2) (by simp only [maxLen]; omega) (by omega) hbase
  exact ⟨v', w', hrun, by unfold Own; rw [pcells_app, List.length_append]; exact h2, h3, h5⟩
theorem app_people_at {ops : Array Oper} {rest : List Oper} {o : Oper} {a : Act} {w : World} {Q : Exit → Act → World → Prop} (hgd : o.guard = none) (s x : Operand)
    (ho : o.op = .call { callee := .builtin .append, args := #[s, x], argTypes := #[TPS, TPS] }) (base : Nat) (v : Value) (l : List Pn) (hs : a.eval s = v) (hown : Own w base v l)
    (Bd : Nat) (ad : Addr) (m d : Nat) (l2 : List Pn) (hm : m = l2.length) (hx : a.eval x = .slice (some ad) m d) (hr : Row w Bd (some ad) (pcells l2)) (hlen : l.length + l2.length ≤ 1000000) (hbase : base ≤ w.heap.size)
    (h : ∀ v' w', Own w' base v' (l ++ l2) → w.grownBy w' v.ownBlock → (v'.ownBlock = v.ownBlock ∨ v'.ownBlock = some w.heap.size) → wpList Try.prog ops Q rest (a.put o.dst v') w') : wpList Try.prog ops Q (o :: rest) a w :=
  wpList_plain hgd fun _ hK => by
    obtain ⟨v', w', hrun, h2, h3, h4⟩ := run_append_people_at w o.type base v l hown Bd ad m d l2 hm hr hlen hbase
    unfold Oper.wp execOp
    simp only [ho, resolve, invoke, builtin, Sem.run_bind, Sem.run_pure, Result.andThen_ok, List.map_toArray, List.map_cons, List.map_nil, hs, hx, hrun]
    exact hK _ _ (h v' w' h2 h3 h4)
/-- The kept ones among the first. -/
def keepTo (x : List Pn) (k : Int) (n : Nat) : List Pn := (x.take n).filter (bigP x k)
theorem keepTo_succ (x : List Pn) (k : Int) (n : Nat) (hn : n < x.length) : keepTo x k (n + 1) = keepTo x k n ++ if k ≤ (sizeAt x n : Int) then [x[n]] else [] := by
  unfold keepTo
  rw [List.take_succ_eq_append_getElem hn, List.filter_append]
  congr 1
  have e : x.getD n p00 = x[n] := by rw [List.getD_eq_getElem?_getD, List.getElem?_eq_getElem hn]; rfl
  rw [sizeAt, e]
  by_cases h : k ≤ (cn (keys x) (key x[n]) : Int)
  · rw [if_pos h, List.filter_cons, if_pos (by rw [bigP, big, decide_eq_true_eq]; exact h)]; rfl
  · rw [if_neg h, List.filter_cons, if_neg (by rw [bigP, big, decide_eq_true_eq]; exact h)]; rfl
theorem keepTo_all (x : List Pn) (k : Int) : keepTo x k x.length = keepP x k := by unfold keepTo keepP; rw [List.take_length]
theorem keepTo_len (x : List Pn) (k : Int) (n : Nat) : (keepTo x k n).length ≤ n := by
  have h1 := List.length_filter_le (bigP x k) (x.take n)
  have h2 := List.length_take_le n x
  unfold keepTo; omega
/-- People of one's own while the block of others grows. -/
theorem InP.aside {w w' : World} {B T : Nat} {v y : Value} {l : List Pn} (h : InP w B T v l) (hg : w.grownBy w' y.ownBlock) (hy : ∀ k, y.ownBlock = some k → k < B ∨ T ≤ k) : InP w' B T v l :=
  ⟨Nat.le_trans h.1 hg.size, h.2.1.same fun k e => hg.block k (by have := (World.ownsRow.lt h.2.1 k e).2; exact this) (fun e2 => by
    have h1 := (World.ownsRow.lt h.2.1 k e).1
    have h2 := h.2.2 k e
    rcases hy k e2.symm with h3 | h3 <;> omega), h.2.2⟩
set_option maxHeartbeats 2000000 in
theorem sAKeep_is (W : World) (l : List Pn) (v : Value) (hv : IsP W v l) (ll : List (List Int)) (u : Value) (hu : IsR W u ll) (r : Rc) (k : Int) (m : List Pn) (t : Bool) (hg : akeep l ll r k = m) (ht : adOk l ll r k = t) (w : World) (hb : Below W.heap.size W w) :
    Calls Try.prog 19 #[v, u, r.val, .int .i64 k] w (OutP m t w) := by
  have HGM := Lib.hid hg
  have HGT := Lib.hid ht
  clear hg ht
  have hbw : Below w.heap.size w w := Below.refl _ _
  have hv' := hv.below hb
  have hu' := hu.below hb
  obtain ⟨W1, hW, hb1, hz, hc⟩ := boxed hbw r
  have HC := Lib.hid hc
  obtain ⟨W2, hW2⟩ : ∃ W2, W2 = W1.alloc (.cells #[] TP) := ⟨_, rfl⟩
  have h12 : Below W1.heap.size W1 W2 := by rw [hW2]; exact (Below.refl _ _).alloc (Nat.le_refl _) _
  have hz2 : W1.heap.size < W2.heap.size := by rw [hW2]; simp
  have HV := Lib.hid ((hv'.below hb1).below h12)
  have HU := Lib.hid ((hu'.below hb1).below h12)
  have hs1 : W1.heap.size = w.heap.size + 1 := by rw [hW]; simp
  have HO := Lib.hid (show Own W2 W1.heap.size (.slice (some ⟨w.heap.size + 1, 0, none⟩) 0 0) [] by rw [hW2, ← hs1]; exact own_new W1 W1 (Below.refl _ _))
  clear hv hu hb hv' hu' hbw
  go_enter Try.func19, Try.ntmps19
  go_wp2_with fail
  rw [← hW, ← hW2]
  clear hW hc
  refine (sADrop_is W2 l v HV.out ll u HU.out r k _ rfl _ (Below.refl _ _)).mono ?_
  rintro e w2 ⟨rfl, h2⟩
  have b2 : Below W1.heap.size W1 w2 := h12.trans (h2.mono (Nat.le_of_lt hz2))
  have HO2 := Lib.hid (HO.out.below h2)
  have hzz := h2.size
  obtain ⟨c0, c1, c2⟩ := HC.out _ b2
  cases hok : adOk l ll r k
  · have HE := Lib.hid (adrop_no hok)
    obtain rfl : m = [] := by rw [← HGM.out, akeep_no hok]
    obtain rfl : t = false := by rw [← HGT.out, hok]
    rw [HE.out]
    clear hok
    have hne : (-1 : Int) < 0 := by omega
    go_wp2
    go_ret2
    exact ⟨_, rfl, InP.of (ownP_less HO2.out (Nat.le_of_lt hz)), hb1.trans (b2.mono (Nat.le_of_lt hz))⟩
  have HOK := Lib.hid hok
  have hgr := (ad_parts.1 hok).1
  have HG := Lib.hid hgr
  have HM := Lib.hid (show keepP (recL ll r l) k = m by rw [← HGM.out, akeep_at hok])
  obtain rfl : t = true := by rw [← HGT.out, hok]
  have hd := adrop_at hok
  have h40 : l.length ≤ 40 := (okL_all (gr_parts.1 hgr).1).1
  have hge : ¬ adrop l ll r k < 0 := by rw [hd]; omega
  generalize adrop l ll r k = d at hge ⊢
  clear hok hd hgr
  go_wp2_with fail
  refine (sRecP_is w2 l v (HV.out.below h2) ll u (HU.out.below h2) r (recL ll r l) true (by rw [recOut, if_pos HG.out]) HG.out _ (Below.refl _ _)).mono ?_
  rintro e w3 ⟨xv, rfl, hx, h3⟩
  obtain ⟨x, hxe⟩ : ∃ x, recL ll r l = x := ⟨_, rfl⟩
  rw [hxe] at hx HM
  have hx40 : x.length ≤ 40 := by rw [← hxe, recL_len]; exact h40
  obtain ⟨Ax, cx, hxv⟩ := hx.sl
  subst hxv
  have HX := Lib.hid hx
  have HO3 := Lib.hid (HO2.out.below h3)
  have b3 := b2.trans (h3.mono (by omega))
  have hz3 := h3.size
  obtain ⟨q, hq⟩ : ∃ q, q = x.length := ⟨_, rfl⟩
  rw [← hq] at HX ⊢
  have HQ := Lib.hid hq
  have hq40 : q ≤ 40 := by omega
  clear hx h2 h3 hxe hq c0 c1 c2
  go_wp2
  go_loopw [10, 13] (fun y i wr => ∃ j : Nat, j ≤ q ∧ i = .int .i64 j ∧ Own wr W1.heap.size y (keepTo x k j) ∧ (∀ b, y.ownBlock = some b → b < w2.heap.size ∨ w3.heap.size ≤ b) ∧ InP wr w2.heap.size w3.heap.size (.slice Ax q cx) x ∧ Below W1.heap.size W1 wr) (fun _ i _ => q - (intOf i).toNat)
  case atStart => exact ⟨0, Nat.zero_le _, rfl, by rw [show keepTo x k 0 = [] from rfl]; exact HO3.out, fun b hb => by simp [Value.ownBlock] at hb; left; omega, HX.out, b3⟩
  case round =>
    obtain ⟨j, hj, rfl, ho, hfar, hin, hb⟩ := hrel
    clear HO HO2 HO3 HX
    have HO := Lib.hid ho
    have HIN := Lib.hid hin
    have HFAR := Lib.hid hfar
    clear ho hfar
    have hzr := hb.size
    have hzr3 := hin.1
    have HLEN := Lib.hid (show (keepTo x k j).length + 1 ≤ 1000000 by have := keepTo_len x k j; omega)
    by_cases hlt : j < q
    · have hji : (j : Int) < (q : Int) := by omega
      have hjx : j < x.length := by rw [← HQ.out]; exact hlt
      have HS := Lib.hid (keepTo_succ x k j hjx)
      obtain ⟨A', c', hv', hqc, hqm, hrow⟩ := hin.is
      obtain ⟨e1, e2, e3⟩ : Ax = A' ∧ q = x.length ∧ cx = c' := by simpa using hv'
      clear e2
      subst e1 e3
      have HROW := Lib.hid hrow
      obtain ⟨z, hz4⟩ : ∃ z, sizeAt x j = z := ⟨_, rfl⟩
      rw [hz4] at HS
      have HZ := Lib.hid hz4; clear hz4 hrow hv'
      go_wp2_with fail
      refine (sSize_at wr x q HQ.out Ax cx j hlt (by omega) z HZ.out HROW.out _ (Below.refl _ _)).mono ?_
      rintro e w5 ⟨rfl, h5⟩
      have HO5 := Lib.hid (HO.out.below h5)
      have HIN5 := Lib.hid (HIN.out.below h5)
      have b5 := hb.trans (h5.mono hzr)
      have hz5 := h5.size
      by_cases hkz : k ≤ (z : Int)
      · rw [if_pos hkz] at HS
        obtain ⟨bx, o, hA, hbx, d0, d1, d2, d3⟩ := (HROW.out.moved h5).at_ j hjx
        subst hA
        obtain ⟨p, hp⟩ : ∃ p, x[j] = p := ⟨_, rfl⟩
        rw [hp] at HS d0 d1 d2 d3
        clear hp h5
        go_wp2_with (at_builtin
                     refine app_people_at rfl (.tmp 40) (.tmp 45) rfl W1.heap.size _ _ rfl (HO5.out.alloc _) (w5.heap.size + 1) ⟨w5.heap.size, 0, none⟩ 1 1 [p] rfl rfl (rowP_new w5 _ _) HLEN.out (by have := b5.size; simp; omega) ?_
                     intro v7 w7 ho7 hg7 hloc
                     have HB7 := Lib.hid (below_own (b5.alloc b5.size _) (HO5.out.alloc _) hg7)
                     have HIN7 := Lib.hid ((HIN5.out.below ((Below.refl w5.heap.size w5).alloc (Nat.le_refl _) _)).aside hg7 HFAR.out)
                     have HO7 := Lib.hid ho7
                     have HF7 := Lib.hid (show ∀ b, v7.ownBlock = some b → b < w2.heap.size ∨ w3.heap.size ≤ b from fun b e => by
                       rcases hloc with h | h
                       · exact HFAR.out b (h ▸ e)
                       · rw [h] at e; simp at e; right; omega)
                     clear ho7 hg7 hloc)
        go_roundw
        case rel => exact ⟨j + 1, by omega, by go_num, by rw [HS.out]; exact HO7.out, HF7.out, HIN7.out, HB7.out⟩
        case measure => simp [intOf]; omega
      · rw [if_neg hkz, List.append_nil] at HS
        go_wp2
        go_roundw
        case rel => exact ⟨j + 1, by omega, by go_num, by rw [HS.out]; exact HO5.out, HFAR.out, HIN5.out, b5⟩
        case measure => simp [intOf]; omega
    · have hjq : j = x.length := by rw [← HQ.out]; omega
      have hall := keepTo_all x k
      rw [← hjq] at hall
      rw [hall] at HO
      rw [HM.out] at HO
      go_wp2
      go_ret2
      exact ⟨_, rfl, InP.of (ownP_less HO.out (Nat.le_of_lt hz)), hb1.trans (hb.mono (Nat.le_of_lt hz))⟩
end Go.Proofs.Ytofobkamnolddaa
