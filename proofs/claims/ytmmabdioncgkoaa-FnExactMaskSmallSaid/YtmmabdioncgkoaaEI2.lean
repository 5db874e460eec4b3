/- Rows of integers that are somebody's own, each row apart from the others. -/
import Derived.Test.YtmmabdioncgkoaaEI1
namespace Go.Proofs.Ytmmabdioncgkoaa
open Go.RowKit
theorem Own1.slot {T : TypeId} {w : World} {B : Nat} {v : Value} {cs : List Value} (h : Own1 T w B v cs) (k : Nat) (hk : k < cs.length) :
    ∃ g c, v = .slice (some ⟨g, 0, none⟩) cs.length c ∧ w.cell? ⟨g, k, none⟩ = cs[k]? ∧ w.frozen? ⟨g, k, none⟩ = false := by
  rcases id h.2 with ⟨rfl, h0⟩ | ⟨g, cap, cur, rfl, _⟩
  · omega
  · exact ⟨g, cap, rfl, h.cellAt k hk⟩
set_option maxHeartbeats 400000 in
theorem toIntSS_any (ll : List (List Int)) (n : Nat) (hn : n = ll.length) (A : Option Addr) (c : Nat) (hf : fits ll = true) (w : World) (hr : LL w w.heap.size A ll) :
    Calls Try.prog 14 #[.slice A n c] w fun e w' => ∃ g, e = .returned (.slice (some ⟨g, 0, none⟩) n n) ∧ Mine w' w.heap.size w'.heap.size (.slice (some ⟨g, 0, none⟩) n n) ll ∧ Below w.heap.size w w' := by
  obtain ⟨i0, hi0, hz0, hs0, hs1⟩ := info_parts (P := Try.prog) (e := TI) (z := .slice none 0 0) (size := 1) (bytes := 24) (by kernel_rfl)
  have hfl : ll.length + tot ll ≤ 1048576 := by simpa [fits] using hf
  have hnl : n ≤ 1048576 := by omega
  have HN := Lib.hid hn; clear hn
  have HF := Lib.hid hfl; clear hfl hf
  go_enter Try.func14, Try.ntmps14
  go_wp2_with (at_make; go_loud (refine wpList_make_full _ rfl _ _ TII rfl w.heap.size TI i0 (.slice none 0 0) 1 Try.underlying22 hi0 hz0 hs0 _ _ _ _ n rfl rfl rfl rfl (by rw [hs1]; omega) (by simp only [maxLen]; omega) (Nat.le_refl _) ?_); intro w1 ho hg)
  have ho1 : Own1 TI w1 w.heap.size (.slice (some ⟨w.heap.size, 0, none⟩) n n) ([] ++ List.replicate (n - 0) nilS) := by
    have h := ho
    have e : (Value.slice none 0 0).cells = #[.slice none 0 0] := rfl
    rw [e, made_one] at h
    unfold Own1
    simpa using h
  have HO := Lib.hid ho1
  have HB := Lib.hid (show Below w.heap.size w w1 from (Below.refl _ _).grown hg (Nat.le_refl _) (fun k hk => by cases hk))
  have hz := hg.size
  clear ho ho1 hg
  have hg1 := (HO.out.ob w.heap.size rfl).2
  obtain ⟨G, hG⟩ : ∃ G, w.heap.size = G := ⟨_, rfl⟩
  rw [hG] at HO HB hz hg1 hr ⊢
  have HG := Lib.hid hG; clear hG
  go_wp2
  go_loopw [4] (fun i wr => ∃ k : Nat, ∃ hs, k ≤ n ∧ i = .int .i64 k ∧ Own1 TI wr G (.slice (some ⟨G, 0, none⟩) n n) (hs ++ List.replicate (n - k) nilS) ∧ Rws wr G wr.heap.size (some G) hs (ll.take k) ∧ Below G w wr) (fun i _ => n - (intOf i).toNat)
  case atStart => exact ⟨0, [], Nat.zero_le _, rfl, HO.out, Rws.nil _ _ _ _, HB.out⟩
  case round =>
    obtain ⟨k, hs, hk, rfl, ho, hrw, hb⟩ := hrel
    clear HO HB
    have HO := Lib.hid ho; clear ho
    have HR := Lib.hid hrw; clear hrw
    by_cases hlt : k < n
    · have hki : (k : Int) < (n : Int) := by omega
      have hkl : k < ll.length := by rw [← HN.out]; exact hlt
      obtain ⟨b, o, Ai, ci, rfl, hbw, c0, h1, h2, r0⟩ := (hr.below hb (Nat.le_refl _)).at_ k hkl
      have hx6 : (ll.getD k []).length ≤ 1048576 := by have := tot_at ll k hkl; have := HF.out; omega
      have HT := Lib.hid (show ll.take (k + 1) = ll.take k ++ [ll.getD k []] by rw [List.take_succ_eq_append_getElem hkl, List.getD_eq_getElem?_getD, List.getElem?_eq_getElem hkl]; rfl)
      obtain ⟨x, hx⟩ : ∃ x, ll.getD k [] = x := ⟨_, rfl⟩
      rw [hx] at c0 h1 r0 hx6 HT
      clear hx
      obtain ⟨q, hq⟩ : ∃ q, q = x.length := ⟨_, rfl⟩
      rw [← hq] at c0 hx6
      have HQ := Lib.hid hq
      have hGz : G < wr.heap.size := (HO.out.ob G rfl).2
      have HR0 := Lib.hid (r0.more (B' := wr.heap.size) (by omega))
      clear hq h1 h2 r0
      go_wp2_with fail
      refine (toIntS_any x q HQ.out Ai ci hx6 _ HR0.out).mono ?_
      rintro e w2 ⟨g, rfl, hg2, ho2, h2⟩
      have HO2 := Lib.hid (HO.out.below h2)
      have hhl : hs.length = k := by rw [HR.out.1]; simp; omega
      have hkk : k < (hs ++ List.replicate (n - k) nilS).length := by simp; omega
      have f0 := (HO2.out.cellAt k hkk).2
      have hcell := (HO2.out.cellAt k hkk).1
      have hu : (hs ++ List.replicate (n - k) nilS)[k]? = some nilS := by
        rw [List.getElem?_append_right (by omega), hhl, Nat.sub_self, List.getElem?_replicate, if_pos (by omega)]
      rw [hu] at hcell
      have hset := HO2.out.setAt k (.slice (some ⟨g, 0, none⟩) q q)
      have he : (hs ++ List.replicate (n - k) nilS).set k (.slice (some ⟨g, 0, none⟩) q q) = (hs ++ [.slice (some ⟨g, 0, none⟩) q q]) ++ List.replicate (n - (k + 1)) nilS := by
        have e : n - k = (n - (k + 1)) + 1 := by omega
        rw [e, List.replicate_succ, List.set_append_right _ _ (by omega), hhl, Nat.sub_self, List.set_cons_zero, List.append_assoc]; rfl
      rw [he] at hset
      have HSET := Lib.hid hset
      have hrw2 : Rws (w2.setCell ⟨G, k, none⟩ (.slice (some ⟨g, 0, none⟩) q q)) G (w2.setCell ⟨G, k, none⟩ (.slice (some ⟨g, 0, none⟩) q q)).heap.size (some G) (hs ++ [.slice (some ⟨g, 0, none⟩) q q]) (ll.take (k + 1)) := by
        rw [HT.out]
        have hsz : (w2.setCell ⟨G, k, none⟩ (.slice (some ⟨g, 0, none⟩) q q)).heap.size = w2.heap.size := by simp [World.setCell]
        rw [hsz]
        refine Rws.snoc (T := wr.heap.size) (HR.out.same fun j h1 h3 h4 => ?_) ?_ h2.size fun j e => ?_
        · exact (Below.heap_setCell w2 ⟨G, k, none⟩ _ j (fun e => h4 (by rw [e]))).trans (h2.block j h3)
        · refine (ho2.less (by omega)).same fun j e => Below.heap_setCell w2 ⟨G, k, none⟩ _ j ?_
          intro e2; have := (ho2.ob j e).1; simp at e2; omega
        · have h3 := ho2.ob j e
          exact ⟨h3.1, h3.2, fun e2 => by injection e2 with e2; omega⟩
      have HRW2 := Lib.hid hrw2
      have hb2 := Lib.hid (hb.trans (h2.mono (by omega)))
      clear hset hrw2 hu he hkk hhl ho2 h2 HR0
      go_wp2
      go_roundw
      case rel => exact ⟨k + 1, _, by omega, by go_num, HSET.out, HRW2.out, hb2.out.setCell (p := ⟨G, k, none⟩) (Nat.le_refl G) _⟩
      case measure => simp [intOf]; omega
    · go_wp2
      go_ret
      have hkn : k = n := by omega
      subst hkn
      have h := HO.out
      rw [Nat.sub_self, List.replicate_zero, List.append_nil] at h
      have h2 := HR.out
      rw [List.take_of_length_le (by rw [← HN.out]; omega)] at h2
      exact ⟨G, rfl, by rw [HG.out]; exact ⟨Nat.le_refl _, fun j e => (h.ob j e).2, hs, h, h2⟩, by rw [HG.out]; exact hb⟩
end Go.Proofs.Ytmmabdioncgkoaa
