/- Contracts of the program: the places of a table, one by one. -/
import Derived.Test.YtobgceebolmfcaaDoorIM2
namespace Go.Proofs.YtobgceebolmfcaaDoor
open Go.RowKit Go.Shelf
attribute [local go_sem] Oper.semAt_some
abbrev Pc (q d : Nat) := Fin q × Fin d
abbrev pcV {q d : Nat} (x : Pc q d) : Array Value := #[.int .i64 (x.1.val : Int), .int .i64 (x.2.val : Int)]
def plc (q d : Nat) : List (Pc q d) := (List.finRange q).flatMap fun a => (List.finRange d).map fun b => (a, b)
/-- What has come when (i, j) is next. -/
def pl (q d i j : Nat) : List (Pc q d) := ((List.finRange q).take i).flatMap (fun a => (List.finRange d).map fun b => (a, b)) ++ (if h : i < q then ((List.finRange d).take j).map (fun b => ((⟨i, h⟩ : Fin q), b)) else [])
theorem pl_zero (q d : Nat) : pl q d 0 0 = [] := by unfold pl; simp
theorem pl_step {q d i j : Nat} (hi : i < q) (hj : j < d) : pl q d i (j + 1) = pl q d i j ++ [(⟨i, hi⟩, ⟨j, hj⟩)] := by
  unfold pl
  rw [dif_pos hi, dif_pos hi, List.append_assoc]
  congr 1
  rw [List.take_succ_eq_append_getElem (by simpa using hj), List.map_append]
  simp
theorem pl_next {q d i : Nat} (hi : i < q) : pl q d i d = pl q d (i + 1) 0 := by
  unfold pl
  rw [dif_pos hi]
  have e : (if h : i + 1 < q then ((List.finRange d).take 0).map (fun b => ((⟨i + 1, h⟩ : Fin q), b)) else []) = [] := by split <;> simp
  rw [e, List.append_nil, List.take_succ_eq_append_getElem (by simpa using hi), List.flatMap_append]
  congr 1
  simp [List.take_of_length_le]
theorem pl_all (q d : Nat) : pl q d q 0 = plc q d := by
  unfold pl plc
  rw [dif_neg (Nat.lt_irrefl _), List.append_nil, List.take_of_length_le (by simp)]
theorem pl_pre0 {q d : Nat} : ∀ n i, i + n = q → pl q d i 0 <+: plc q d
  | 0, i, h => by have : i = q := by omega
                  rw [this, pl_all]; exact List.prefix_rfl
  | n + 1, i, h => by
    have hi : i < q := by omega
    refine List.IsPrefix.trans ?_ (pl_pre0 n (i + 1) (by omega))
    rw [← pl_next hi]
    unfold pl
    rw [dif_pos hi, dif_pos hi, List.prefix_append_right_inj]
    simp
theorem pl_pre {q d i j : Nat} (hi : i < q) : pl q d i j <+: plc q d := by
  refine List.IsPrefix.trans ?_ (pl_pre0 (q - (i + 1)) (i + 1) (by omega))
  rw [← pl_next hi]
  unfold pl
  rw [dif_pos hi, dif_pos hi, List.prefix_append_right_inj]
  exact List.IsPrefix.map _ (by rw [List.take_of_length_le (l := List.finRange d) (i := d) (by simp)]; exact List.take_prefix _ _)
theorem plc_mem {q d : Nat} (x : Pc q d) : x ∈ plc q d := by
  unfold plc
  simp
  exact ⟨x.1, x.2, rfl⟩
theorem plc_len (q d : Nat) : (plc q d).length = q * d := by
  unfold plc
  simp [List.length_flatMap, List.map_const']
theorem abides_b {β : Type} {B : Nat} {J : β → World → Prop} (h : AbidesFrom B J) {s : β} {W W' : World} (hs : J s W) (hb : Below W.heap.size W W') : J s W' :=
  h s W W' none hs ⟨hb.os, hb.tape, hb.output, hb.size, fun i hi _ => hb.block i hi⟩ (fun r e => by cases e)
/-- The block B lies as it lay. -/
abbrev KB (B : Nat) (X Y : World) : Prop := Y.heap[B]? = X.heap[B]?
theorem kB_t {B : Nat} {X Y Z : World} (h : KB B X Y) (k : KB B Y Z) : KB B X Z := Eq.trans k h
theorem kB_b {B n : Nat} (hB : B < n) (W : World) (l : Nat) (o o' : Obj) (hl : n ≤ l) (_ : W.heap[l]? = some o) (_ : o.isCells = false) (_ : o.isWalk = false) : KB B W (W.putObj l o') := World.putObj_heap_other (by omega)
set_option maxRecDepth 100000 in
set_option maxHeartbeats 2000000 in
/-- The function value that goes through the places. -/
theorem places_stops (n : Nat) (hn : 2 ≤ n) (Bn q d : Nat) (hq : q ≤ 4) (hd : d ≤ 4) (w : World) (hBn : Bn < w.heap.size) (hc : w.heap[Bn]? = some (.cells #[.int .i64 q, .int .i64 d] TG (0, 0))) :
    SeqStopsK Fence.wide n Tryd.prog 80 #[.pointer (some ⟨Bn, 0, none⟩)] (fun x : Pc q d => pcV x) (KB Bn) (fun ys => ys = plc q d) (fun pre => pre <+: plc q d) (plc q d).length w := by
  intro l J Jx W hW hJ hJx hY h0
  have HY := Lib.hid hY
  have HC := Lib.hid (show ∀ w', KB Bn w w' → w'.cell? ⟨Bn, 0, none⟩ = some (.int .i64 q) ∧ w'.cell? ⟨Bn, 1, none⟩ = some (.int .i64 d) from fun w' h => by
    obtain ⟨c0, c1, _, _⟩ := blk2 (Eq.trans h hc); exact ⟨c0, c1⟩)
  have H0 := Lib.hid h0
  have HW := Lib.hid (show KB Bn w W from hW.block Bn hBn)
  clear hY hJ hJx hc h0 hW
  refine callsIn_of_wp Tryd.func80 rfl trivial ?_ rfl
  simp only [Tryd.ntmps80, List.size_toArray, List.length_cons, List.length_nil, Nat.reduceAdd, Nat.reduceSub, Array.replicate_succ, Array.replicate_zero, List.push_toArray, List.append_toArray, List.nil_append, List.cons_append]
  obtain ⟨c0, c1⟩ := HC.out W HW.out
  gi_wp2
  clear c0 c1
  gi_loopw [7] (fun v wr => ∃ i : Nat, i ≤ q ∧ v = .int .i64 i ∧ J (pl q d i 0) wr ∧ KB Bn w wr) (fun v _ => q - (intOf v).toNat)
  case atStart => exact ⟨0, Nat.zero_le _, rfl, by rw [pl_zero]; exact H0.out, HW.out⟩
  case round =>
    obtain ⟨i, hi, rfl, hj, hb⟩ := hrel
    have HJ1 := Lib.hid hj
    have HB1 := Lib.hid hb
    obtain ⟨c0, c1⟩ := HC.out _ hb
    clear hj hb
    by_cases hlt : i < q
    · have hii : (i : Int) < (q : Int) := by omega
      gi_wp2
      clear c0 c1
      gi_loopw [12] (fun v wr => ∃ j : Nat, j ≤ d ∧ v = .int .i64 j ∧ J (pl q d i j) wr ∧ KB Bn w wr) (fun v _ => d - (intOf v).toNat)
      case atStart => exact ⟨0, Nat.zero_le _, rfl, HJ1.out, HB1.out⟩
      case round =>
        clear HJ1 HB1
        obtain ⟨j, hjd, rfl, hj, hb⟩ := hrel
        have HJ2 := Lib.hid hj
        have HB2 := Lib.hid hb
        clear hj hb
        by_cases hlj : j < d
        · have hji : (j : Int) < (d : Int) := by omega
          have HST := Lib.hid (pl_step hlt hlj)
          have HPRE := Lib.hid (show pl q d i j ++ [(⟨i, hlt⟩, ⟨j, hlj⟩)] <+: plc q d by rw [← HST.out]; exact pl_pre hlt)
          have hlen : (pl q d i j).length < (plc q d).length := by
            have h := HPRE.out.length_le
            rw [List.length_append] at h
            simp at h; omega
          obtain ⟨fn, tmps, assign, body, hy, hR⟩ := HY.out (pl q d i j) (⟨i, hlt⟩, ⟨j, hlj⟩) wr HJ2.out hlen
          dsimp only [pcV] at hy
          clear hlen
          gi_wp2
          refine ⟨fun _ => by omega, ?_⟩
          refine hR.mono ?_
          clear hR hy
          rintro e w6 (⟨rfl, hj6, hb6⟩ | ⟨rfl, hx6⟩)
          · have HJ6 := Lib.hid hj6
            have HB6 := Lib.hid (kB_t HB2.out hb6)
            clear hj6 hb6
            gi_wp2
            go_roundw
            case rel => exact ⟨j + 1, by omega, by go_num, by rw [HST.out]; exact HJ6.out, HB6.out⟩
            case measure => simp [intOf]; omega
          · have HX6 := Lib.hid hx6
            clear hx6
            gi_wp2
            refine bodyPost_ret (results_none rfl _ _ _) rfl ?_
            exact ⟨⟨_, rfl⟩, .inr ⟨_, HPRE.out, HX6.out⟩⟩
        · have hji : ¬ (j : Int) < (d : Int) := by omega
          obtain rfl : j = d := by omega
          have HN := Lib.hid (pl_next (d := j) hlt)
          gi_wp2
          go_roundw
          case rel => exact ⟨i + 1, by omega, by go_num, by rw [← HN.out]; exact HJ2.out, HB2.out⟩
          case measure => simp [intOf]; omega
    · have hii : ¬ (i : Int) < (q : Int) := by omega
      obtain rfl : i = q := by omega
      have hJ1 := HJ1.out
      rw [pl_all] at hJ1
      have HJ9 := Lib.hid hJ1
      clear hJ1
      gi_wp2
      go_end0
      exact ⟨⟨_, rfl⟩, .inl HJ9.out⟩
end Go.Proofs.YtobgceebolmfcaaDoor
