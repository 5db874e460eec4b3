/- Contracts of the program: tables of people. -/
import Derived.Test.YtjgohakiodcjmaaIMC
import Derived.Test.YtjgohakiodcjmaaTS3
import Derived.Test.YtjgohakiodcjmaaA4
import Derived.StillTailTactics
set_option maxRecDepth 100000
namespace Go.Proofs.Ytjgohakiodcjmaa
open Go.RowKit Go.Shelf
theorem blkP4 {w : World} {g : Nat} {t : TypeId} {a b c d : Value} (h : w.heap[g]? = some (.cells #[a, b, c, d] t (0, 0))) : w.cell? ⟨g, 0, none⟩ = some a ∧ w.cell? ⟨g, 1, none⟩ = some b := by
  refine ⟨?_, ?_⟩ <;> simp [World.cell?, h]
set_option maxHeartbeats 4000000 in
theorem iTabOf_is (W : World) (l : List Pn) (v : Value) (hv : IsP W v l) (m : Tb) (g : Bool) (hm : tabI l = m) (hg : okL l = g) (_hl6 : l.length ≤ 1048576) (w : World) (hb : Below W.heap.size W w) :
    Calls Try.prog 15 #[v] w (OutRT m g w) := by
  have HG := Lib.hid hg
  have HM := Lib.hid hm
  have hv0 := hv.below hb
  clear hv hb
  obtain ⟨A, c, rfl, a1, a2, a3⟩ := hv0
  obtain ⟨q, hq⟩ : ∃ q, q = l.length := ⟨_, rfl⟩
  have HQ := Lib.hid hq
  have HR := Lib.hid a3
  have HV := Lib.hid (valid_any l A c w a3 (Nat.le_trans a1 a2))
  rw [← hq] at HV ⊢
  clear a1 a2 a3 hg hm hq
  go_enter Try.func15, Try.ntmps15
  go_wp2_with fail
  refine HV.out.mono ?_
  rintro e w1 ⟨rfl, b1⟩
  rw [HG.out]
  have HB1 := Lib.hid b1
  have hz1 := b1.size
  cases g
  · have HE := Lib.hid (show m = [] by rw [← HM.out, tabI, HG.out]; rfl)
    have HO := Lib.hid (show Mine (w1.alloc (.cells #[] TI)) w.heap.size (w1.alloc (.cells #[] TI)).heap.size (.slice (some ⟨w1.heap.size, 0, none⟩) 0 0) [] from (mine_new hz1).up)
    have HB2 := Lib.hid (b1.alloc hz1 (.cells #[] TI))
    clear b1
    go_wp2
    go_ret2
    exact ⟨_, rfl, by rw [HE.out]; exact HO.out, HB2.out⟩
  have HE := Lib.hid (show m = tabOf l by rw [← HM.out, tabI, if_pos HG.out])
  have hoc := ok_codes HG.out
  have hq40 : q ≤ 40 := by rw [HQ.out]; exact hoc.2.2
  have HC := Lib.hid hoc
  clear b1 hoc
  go_wp2_with fail
  refine (iNew_any 4 4 (by omega) (by omega) w1).mono ?_
  rintro e w2 ⟨g2, c2, rfl, ho2, h2⟩
  have hzz := h2.size
  obtain ⟨w3, hw3, b3, hz3, k3⟩ := one_blk w2 #[.int .i64 4, .int .i64 4, .slice (some ⟨g2, 0, none⟩) 4 c2] TGI
  have HW3 := Lib.hid hw3.symm
  have HO := Lib.hid (show Mine w3 w1.heap.size w2.heap.size (.slice (some ⟨g2, 0, none⟩) 4 c2) (tabOf (l.take 0)) from Mine.below ho2 b3)
  have HB2 := Lib.hid (HB1.out.trans ((h2.trans (b3.mono hzz)).mono hz1))
  have hwt : w.heap.size ≤ w2.heap.size := by omega
  clear ho2 h2 b3 hw3 hz3
  go_wp2
  rw [show (w2.alloc (.cells #[.int .i64 4, .int .i64 4, .slice (some ⟨g2, 0, none⟩) 4 c2] TGI)) = w3 from HW3.out]
  go_loopw [15] (fun i wr => ∃ k : Nat, k ≤ q ∧ i = .int .i64 k ∧ Mine wr w1.heap.size w2.heap.size (.slice (some ⟨g2, 0, none⟩) 4 c2) (tabOf (l.take k)) ∧ wr.heap[w2.heap.size]? = some (.cells #[.int .i64 4, .int .i64 4, .slice (some ⟨g2, 0, none⟩) 4 c2] TGI (0, 0)) ∧ Below w.heap.size w wr) (fun i _ => q - (intOf i).toNat)
  case atStart => exact ⟨0, Nat.zero_le _, rfl, HO.out, k3, HB2.out⟩
  case round =>
    obtain ⟨k, hk, rfl, ho, hgr, hb⟩ := hrel
    clear HO HB2
    by_cases hlt : k < q
    · have hki : (k : Int) < (q : Int) := by omega
      have hkl : k < l.length := by rw [← HQ.out]; exact hlt
      obtain ⟨bq, o, rfl, hbw, c0, c1, c2', c3'⟩ := (HR.out.below hb (Nat.le_refl _)).at_ k hkl
      obtain ⟨hca, hcj, hc40⟩ := HC.out
      have ha := hca l[k] (List.getElem_mem hkl)
      have hj := hcj l[k] (List.getElem_mem hkl)
      obtain ⟨a, hae⟩ : ∃ a : Nat, l[k].area = a := ⟨l[k].area.toNat, by omega⟩
      obtain ⟨b, hbe⟩ : ∃ b : Nat, l[k].job = b := ⟨l[k].job.toNat, by omega⟩
      have ha4 : a < 4 := by omega
      have hb4 : b < 4 := by omega
      have HT := Lib.hid (tabOf_take l hkl ha4 hb4 hae hbe)
      rw [hae] at c0
      rw [hbe] at c1
      obtain ⟨sx, hsx⟩ : ∃ s, l[k].sex = s := ⟨_, rfl⟩
      obtain ⟨py, hpy⟩ : ∃ s, l[k].pay = s := ⟨_, rfl⟩
      rw [hsx] at c2'
      rw [hpy] at c3'
      have hai : (a : Int) < 4 := by omega
      have hbi : (b : Int) < 4 := by omega
      obtain ⟨X, hX, bX, hzX, kX⟩ := one_blk wr #[.int .i64 a, .int .i64 b, .int .i64 sx, .int .i64 py] TP
      have HX := Lib.hid hX.symm
      have hoX := Mine.below ho bX
      have hgX := (bX.block w2.heap.size (Array.getElem?_eq_some_iff.1 hgr).1).trans hgr
      have hbX : Below w.heap.size w X := hb.trans (bX.mono hb.size)
      obtain ⟨p0, p1⟩ := blkP4 kX
      obtain ⟨g', c', gi, ci, hv', k0, _, ⟨hgi, hgT⟩, _, k1, kf, hset⟩ := hoX.cell (i := a) (j := b) (by rw [tabOf_len]; exact ha4) (by rw [tabOf_rlen _ ha4]; exact hb4)
      injection hv' with hv1 hv2 hv3
      injection hv1 with hv1
      injection hv1 with hv1 _ _
      subst hv1
      rw [tabOf_rlen _ ha4] at k0
      have hcb := cel_bd (l.take k) a b
      rw [tabOf_cell _ ha4 hb4] at k1 HT
      have hlk := List.length_take_le k l
      obtain ⟨n, hn⟩ : ∃ n, cel (l.take k) a b = n := ⟨_, rfl⟩
      rw [hn] at k1 HT hcb
      have hwn : IntKind.i64.wrap (n + 1) = n + 1 := by rw [IntKind.wrap_i64]; omega
      have HSET := Lib.hid (show Mine (X.setCell ⟨gi, b, none⟩ (.int .i64 (n + 1))) w1.heap.size w2.heap.size (.slice (some ⟨g2, 0, none⟩) 4 c2) (tabOf (l.take (k + 1))) by rw [HT.out]; exact hset _)
      have HGS := Lib.hid (show (X.setCell ⟨gi, b, none⟩ (.int .i64 (n + 1))).heap[w2.heap.size]? = some (.cells #[.int .i64 4, .int .i64 4, .slice (some ⟨g2, 0, none⟩) 4 c2] TGI (0, 0)) from (Below.heap_setCell X ⟨gi, b, none⟩ _ _ (by show w2.heap.size ≠ gi; omega)).trans hgX)
      have HBS := Lib.hid (hbX.setCell (p := ⟨gi, b, none⟩) (Nat.le_trans hz1 hgi) (.int .i64 (n + 1)))
      obtain ⟨_, _, e0, _, _, _⟩ := blkG3 hgX
      have hk40 : (l.take k).length ≤ 40 := by omega
      obtain ⟨n0, n1⟩ := hcb
      have n2 : n ≤ 40 := by omega
      clear hset ho hb hv2 hv3 hn ha hj hca hcj hae hbe hlk hkl hc40 n1 hk40 hsx hpy hX hzX kX hoX hgX hbX bX hgr
      go_wp2
      rw [show (wr.alloc (.cells #[.int .i64 a, .int .i64 b, .int .i64 sx, .int .i64 py] TP)) = X from HX.out]
      clear c0 c1 c2' c3'
      go_still_tail 11, (by kernel_rfl)
      change wpList _ _ _ _ _ X.drew
      obtain ⟨Z, hZ⟩ : ∃ Z, Z = X.drew := ⟨_, rfl⟩
      have kf' : Z.frozen? ⟨gi, b, none⟩ = false := by rw [hZ]; exact kf
      have k1' : Z.cell? ⟨gi, b, none⟩ = some (.int .i64 n) := by rw [hZ]; exact k1
      have HS2 := Lib.hid (show Mine (Z.setCell ⟨gi, b, none⟩ (.int .i64 (n + 1))) w1.heap.size w2.heap.size (.slice (some ⟨g2, 0, none⟩) 4 c2) (tabOf (l.take (k + 1))) by rw [hZ]; exact HSET.out)
      have HG2 := Lib.hid (show (Z.setCell ⟨gi, b, none⟩ (.int .i64 (n + 1))).heap[w2.heap.size]? = some (.cells #[.int .i64 4, .int .i64 4, .slice (some ⟨g2, 0, none⟩) 4 c2] TGI (0, 0)) by rw [hZ]; exact HGS.out)
      have HB2 := Lib.hid (show Below w.heap.size w (Z.setCell ⟨gi, b, none⟩ (.int .i64 (n + 1))) by rw [hZ]; exact ⟨HBS.out.os, HBS.out.tape, HBS.out.output, HBS.out.size, HBS.out.block⟩)
      rw [← hZ]
      clear hZ k0 k1 kf p0 p1 e0 HSET HBS HGS
      go_wp2
      go_roundw
      case rel => exact ⟨k + 1, by omega, by go_num, HS2.out, HG2.out, HB2.out⟩
      case measure => simp [intOf]; omega
    · have hki : ¬ (k : Int) < (q : Int) := by omega
      have hkq : l.take k = l := List.take_of_length_le (by rw [← HQ.out]; omega)
      rw [hkq, ← HE.out] at ho
      obtain ⟨_, _, e0, _, _, _⟩ := blkG3 hgr
      have HO := Lib.hid ((ho.lower hz1).up)
      have HB := Lib.hid hb
      clear ho hb hkq hgr
      go_wp2
      go_ret2
      exact ⟨_, rfl, HO.out, HB.out⟩
end Go.Proofs.Ytjgohakiodcjmaa
