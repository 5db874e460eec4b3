/- Laws of chapter 14: what a step hides is not alone. -/
import Derived.Test.YtobgceebolmfcaaDoorVI14
import Derived.Test.YtobgceebolmfcaaDoorVSA
import Derived.Test.YtobgceebolmfcaaDoorVD
import Derived.Test.YtobgceebolmfcaaDoorWN0
import Derived.Test.YtobgceebolmfcaaDoorTLA
import Derived.Test.YtobgceebolmfcaaDoorWL0
namespace Go.Proofs.YtobgceebolmfcaaDoor
open Go.RowKit
def noNew (m x : Mk) (d k p : Nat) : Prop := (∀ a b, a < k → b < d → newC m x a b = false) ∧ ∀ b, b < p → newC m x k b = false
theorem noNew.start (m x : Mk) (d : Nat) : noNew m x d 0 0 := ⟨fun _ _ h => absurd h (Nat.not_lt_zero _), fun _ h => absurd h (Nat.not_lt_zero _)⟩
theorem noNew.next {m x : Mk} {d k p : Nat} (h : noNew m x d k p) (e : newC m x k p = false) : noNew m x d k (p + 1) := ⟨h.1, fun b hb => by
  by_cases hp : b = p
  · subst hp; exact e
  · exact h.2 b (by omega)⟩
theorem noNew.row {m x : Mk} {d k : Nat} (h : noNew m x d k d) : noNew m x d (k + 1) 0 := ⟨fun a b ha hb => by
  by_cases hk : a = k
  · subst hk; exact h.2 b hb
  · exact h.1 a b (by omega) hb, fun _ h => absurd h (Nat.not_lt_zero _)⟩
def SeenR (m x : Mk) (d k p : Nat) (r c : Value) : Prop := ∃ s : Bool, r = .bool s ∧ c = .bool s ∧ (s = false → noNew m x d k p)
def cnt1 (f : Nat → Bool) : Nat → Nat
  | 0 => 0
  | n + 1 => cnt1 f n + if f n = true then 1 else 0
theorem cnt1_le (f : Nat → Bool) : ∀ n, cnt1 f n ≤ n
  | 0 => Nat.le_refl _
  | n + 1 => by
    have := cnt1_le f n
    simp only [cnt1]
    split <;> omega
theorem cnt1_one {f : Nat → Bool} {a : Nat} (e : f a = true) : ∀ n, a < n → 1 ≤ cnt1 f n
  | n + 1, h => by
    simp only [cnt1]
    by_cases hn : a = n
    · subst hn; rw [if_pos e]; omega
    · have := cnt1_one e n (by omega); omega
theorem cnt1_two {f : Nat → Bool} {a b : Nat} (e : f a = true) (e2 : f b = true) (hne : a ≠ b) : ∀ n, a < n → b < n → 2 ≤ cnt1 f n
  | n + 1, h, h2 => by
    simp only [cnt1]
    by_cases hn : a = n
    · subst hn
      have := cnt1_one e2 a (by omega)
      rw [if_pos e]; omega
    · by_cases hm : b = n
      · subst hm
        have := cnt1_one e b (by omega)
        rw [if_pos e2]; omega
      · have := cnt1_two e e2 hne n (by omega) (by omega); omega
set_option maxRecDepth 100000 in
set_option maxHeartbeats 4000000 in
theorem w_PatternStepRow (A : Option Addr) (n c : Nat) (hnc : n ≤ c) (hn : n ≤ maxLen) (w : World) (hb : Bytes w w.heap.size A n) (hT : TabW w) :
    Calls Tryd.prog 4 #[.slice A n c] w fun e w' => e = .returned (.bool true) ∧ Below w.heap.size w w' := by
  have hn2 := hn
  unfold maxLen at hn2
  rcases (show 1048576 < n ∨ ¬ 1048576 < n by omega) with hbig | hbig
  · go_enter Tryd.func4, Tryd.ntmps4
    go_wp2
    go_ret
    exact ⟨rfl, Below.refl _ _⟩
  · go_enter Tryd.func4, Tryd.ntmps4
    go_wp2_with fail
    refine (dPStep_any A n c hnc hn _ hb).mono ?_
    rintro e W ⟨tv, fv, mv, t, f, m, N, rfl, ht, hf, hm, hl, hlr, hN, hbW⟩
    have HT := Lib.hid ht
    have HF := Lib.hid hf
    have HU := Lib.hid hm
    have HB := Lib.hid hbW
    have HTW := Lib.hid (hT.below hbW)
    obtain ⟨r, hr⟩ : ∃ r, stepO t f m N = r := ⟨_, rfl⟩
    have HR := Lib.hid hr
    have b0 := Below.refl W.heap.size W
    clear hb ht hf hm hbW hl hlr hr hn hT
    go_wp2_with fail
    refine (iStep_is W t _ HT.out f _ HF.out m _ HU.out N r HR.out W b0 HTW.out).mono ?_
    rintro e w1 ⟨v1, rfl, ho1, b1⟩
    go_wp2_with fail
    refine (sStep_is w1 t _ (HT.out.below b1) f _ (HF.out.below b1) m _ (HU.out.below b1) N r HR.out w1 (Below.refl _ _)).mono ?_
    rintro e w2 ⟨v2, rfl, ho2, h2⟩
    have b2 : Below W.heap.size W w2 := b1.trans (h2.mono b1.size)
    replace HT := Lib.hid (HT.out.below b2)
    replace HF := Lib.hid (HF.out.below b2)
    replace HU := Lib.hid (HU.out.below b2)
    replace HTW := Lib.hid (HTW.out.below b2)
    replace HB := Lib.hid (HB.out.trans (b2.mono HB.out.size))
    have HD := Lib.hid ((ho1.below h2).is)
    have HE := Lib.hid ho2.is
    clear ho1 ho2 b1 h2 b2 b0
    cases r with
    | none =>
      have HD' := Lib.hid (show IsM w2 v1 [] from HD.out)
      have HE' := Lib.hid (show IsM w2 v2 [] from HE.out)
      have b0 := Below.refl w2.heap.size w2
      clear HD HE
      simp only [Option.isSome]
      go_wp2_with fail
      refine (lMask_is w2 [] v1 HD'.out v2 HE'.out _ b0).mono ?_
      rintro e w3 ⟨rfl, b3⟩
      go_wp2_with fail
      refine (lMask_is w2 [] v1 HD'.out v2 HE'.out _ b3).mono ?_
      rintro e w4 ⟨rfl, b4⟩
      go_wp2
      go_ret
      exact ⟨rfl, HB.out.trans (b4.mono HB.out.size)⟩
    | some x =>
      replace HD := Lib.hid (show IsM w2 v1 x from HD.out)
      replace HE := Lib.hid (show IsM w2 v2 x from HE.out)
      have b0 := Below.refl w2.heap.size w2
      simp only [Option.isSome]
      go_wp2_with fail
      refine (lMask_is w2 x v1 HD.out v2 HE.out _ b0).mono ?_
      rintro e w3 ⟨rfl, b3⟩
      clear HE b0
      obtain ⟨h3, hxk, hmore, hneed⟩ := step_ok HR.out
      obtain ⟨hfk, hmk, hN0, hN9⟩ := pOk3_iff.1 h3
      have htb := mk_tab hfk
      have HFK := Lib.hid hfk
      have HMK := Lib.hid hmk
      have HXK := Lib.hid hxk
      have HTB := Lib.hid htb
      have HMO := Lib.hid hmore
      have HNE := Lib.hid hneed
      clear h3 hxk hmore hfk hmk hneed
      have ht1 := htb.h1
      have ht4 := htb.h4
      have hw1 := htb.w1
      have hw4 := htb.w4
      obtain ⟨bt, ot, ct, tb, to, tc, htv, htall⟩ := HT.out.all htb
      subst htv
      obtain ⟨_, hml, hmr⟩ := mk_parts.1 HMK.out
      obtain ⟨bm_, om_, cm, mb, mo, mc, hmv, hmall⟩ := HU.out.all (d := wd t) (by omega) hw1 hmr
      rw [hml] at hmv
      subst hmv
      obtain ⟨_, hxl, hxr⟩ := mk_parts.1 HXK.out
      obtain ⟨bx_, ox_, cx, xb, xo, xc, hxv, hxall⟩ := HD.out.all (d := wd t) (by omega) hw1 hxr
      rw [hxl] at hxv
      subst hxv
      obtain ⟨q, hq⟩ : ∃ q, t.length = q := ⟨_, rfl⟩
      obtain ⟨d, hd⟩ : ∃ d, wd t = d := ⟨_, rfl⟩
      have HQ := Lib.hid hq
      have HDD := Lib.hid hd
      rw [hq, hd] at htall
      rw [hml, hq, hd] at hmall
      rw [hxl, hq, hd] at hxall
      have HTA := Lib.hid (show ∀ w', Below w2.heap.size w2 w' → w'.cell? ⟨bt, ot, none⟩ = some (.slice (some ⟨tb 0, to 0, none⟩) d (tc 0)) ∧ (∀ i, i < q → w'.cell? ⟨bt, ot + i, none⟩ = some (.slice (some ⟨tb i, to i, none⟩) d (tc i))) ∧ ∀ i j, i < q → j < d → w'.cell? ⟨tb i, to i + j, none⟩ = some (.int .i64 (cF t i j)) from
        fun w' h => ⟨(htall w' h).1 0 (by omega), htall w' h⟩)
      have HmA := Lib.hid hmall
      have HxA := Lib.hid hxall
      rw [hq] at HT HU HD ht1 ht4 ⊢
      rw [hd] at hw1 hw4
      have hq0i : (0 : Int) < (q : Int) := by omega
      have hq0 : 0 < q := ht1
      have hd0 : 0 < d := hw1
      have HB3 := Lib.hid b3
      clear htall hmall hml hmr hxall hxl hxr htb hq hd b3
      go_wp2
      go_loopw [11, 12, 13] (fun rr cc i wr => ∃ k : Nat, k ≤ q ∧ i = .int .i64 k ∧ SeenR m x d k 0 rr cc ∧ Below w2.heap.size w2 wr) (fun _ _ i _ => q - (intOf i).toNat)
      case atStart => exact ⟨0, Nat.zero_le _, rfl, ⟨false, rfl, rfl, fun _ => noNew.start _ _ _⟩, HB3.out⟩
      case round =>
        obtain ⟨k, hk, rfl, ⟨s, rfl, rfl, hsn⟩, hb5⟩ := hrel
        have HB5 := Lib.hid hb5
        have HSN0 := Lib.hid hsn
        clear hsn
        by_cases hlt : k < q
        · have hki : (k : Int) < (q : Int) := by omega
          clear hb5
          go_wp2
          go_loopw [11, 12, 14] (fun rr cc i wr' => ∃ p : Nat, p ≤ d ∧ i = .int .i64 p ∧ SeenR m x d k p rr cc ∧ Below w2.heap.size w2 wr') (fun _ _ i _ => d - (intOf i).toNat)
          case atStart => exact ⟨0, Nat.zero_le _, rfl, ⟨s, rfl, rfl, HSN0.out⟩, HB5.out⟩
          case round =>
            clear HSN0
            obtain ⟨p, hp, rfl, ⟨s, rfl, rfl, hsn⟩, hb6⟩ := hrel
            have HB6 := Lib.hid hb6
            have HSN := Lib.hid hsn
            clear hsn
            have r1 := (HTA.out _ hb6).2.1 k hlt
            by_cases hpd : p < d
            · have hpi : (p : Int) < (d : Int) := by omega
              have a1 := (HmA.out _ hb6).1 k hlt
              have a2 := (HmA.out _ hb6).2 k p hlt hpd
              have c1 := (HxA.out _ hb6).1 k hlt
              have c2 := (HxA.out _ hb6).2 k p hlt hpd
              cases hxv : hF x k p
              · rw [hxv] at c2
                have HE := Lib.hid (show newC m x k p = false by simp [newC, hxv])
                clear hb6 hxv
                go_wp2
                go_roundw
                case rel => exact ⟨p + 1, by omega, by go_num, ⟨s, rfl, rfl, fun h => (HSN.out h).next HE.out⟩, HB6.out⟩
                case measure => simp [intOf]; omega
              · cases hmv : hF m k p
                rotate_left
                · rw [hmv] at a2
                  rw [hxv] at c2
                  have HE := Lib.hid (show newC m x k p = false by simp [newC, hmv])
                  clear hb6 hmv hxv
                  go_wp2
                  go_roundw
                  case rel => exact ⟨p + 1, by omega, by go_num, ⟨s, rfl, rfl, fun h => (HSN.out h).next HE.out⟩, HB6.out⟩
                  case measure => simp [intOf]; omega
                · have hn := step_row HR.out (show newC m x k p = true by simp [newC, hmv, hxv])
                  have HC1 := Lib.hid (show 2 ≤ cnt1 (fun o => hF x k o) d by
                    obtain ⟨⟨o, h1, h2, h3⟩, _⟩ := hn
                    exact cnt1_two (f := fun o => hF x k o) h3 hxv h2 d (by rw [← HDD.out]; exact h1) hpd)
                  have HC2 := Lib.hid (show 2 ≤ cnt1 (fun o => hF x o p) q by
                    obtain ⟨_, o, h1, h2, h3⟩ := hn
                    exact cnt1_two (f := fun o => hF x o p) h3 hxv h2 q (by rw [← HQ.out]; exact h1) hlt)
                  rw [hmv] at a2
                  rw [hxv] at c2
                  clear hb6 hmv hxv hn
                  go_wp2
                  go_loopw [15, 17] (fun zz i wr3 => ∃ e : Nat, e ≤ d ∧ i = .int .i64 e ∧ zz = .int .i64 ((cnt1 (fun o => hF x k o) e : Nat) : Int) ∧ Below w2.heap.size w2 wr3) (fun _ i _ => d - (intOf i).toNat)
                  case atStart => exact ⟨0, Nat.zero_le _, rfl, rfl, HB6.out⟩
                  case round =>
                    obtain ⟨e, he, rfl, rfl, hb8⟩ := hrel
                    have HB8 := Lib.hid hb8
                    have r1 := (HTA.out _ hb8).2.1 k hlt
                    have hze := cnt1_le (fun o => hF x k o) e
                    by_cases hed : e < d
                    · have hei : (e : Int) < (d : Int) := by omega
                      obtain ⟨z, hz⟩ : ∃ z, cnt1 (fun o => hF x k o) e = z := ⟨_, rfl⟩
                      have hsz : cnt1 (fun o => hF x k o) (e + 1) = cnt1 (fun o => hF x k o) e + if (fun o => hF x k o) e = true then 1 else 0 := rfl
                      rw [hz] at hze hsz ⊢
                      have HZ := Lib.hid hz
                      have hwz : IntKind.i64.wrap ((z : Int) + 1) = (z : Int) + 1 := by rw [IntKind.wrap_i64] <;> omega
                      clear hz
                      have c1 := (HxA.out _ hb8).1 k hlt
                      have c2 := (HxA.out _ hb8).2 k e hlt hed
                      cases hxv : hF x k e
                      · have HS := Lib.hid (show cnt1 (fun o => hF x k o) (e + 1) = z by rw [hsz, if_neg (by show ¬ hF x k e = true; rw [hxv]; simp)]; rfl)
                        rw [hxv] at c2
                        clear hsz hxv hb8
                        go_wp2
                        go_roundw
                        case rel => exact ⟨e + 1, by omega, by go_num, by rw [HS.out], HB8.out⟩
                        case measure => simp [intOf]; omega
                      · have HS := Lib.hid (show cnt1 (fun o => hF x k o) (e + 1) = z + 1 by rw [hsz, if_pos (by show hF x k e = true; exact hxv)])
                        rw [hxv] at c2
                        clear hsz hxv hb8
                        go_wp2
                        go_roundw
                        case rel => exact ⟨e + 1, by omega, by go_num, by rw [HS.out]; go_num, HB8.out⟩
                        case measure => simp [intOf]; omega
                    · obtain rfl : d = e := by omega
                      clear hed hze he
                      clear hb8
                      obtain ⟨z1, hz1⟩ : ∃ z, cnt1 (fun o => hF x k o) d = z := ⟨_, rfl⟩
                      have hz11 : (1 : Int) < (z1 : Int) := by
                        have := HC1.out
                        rw [hz1] at this
                        omega
                      rw [hz1]
                      clear hz1
                      have HB9 := HB8
                      clear HB8
                      go_wp2
                      go_loopw [16, 18] (fun zz i wr3 => ∃ e : Nat, e ≤ q ∧ i = .int .i64 e ∧ zz = .int .i64 ((cnt1 (fun o => hF x o p) e : Nat) : Int) ∧ Below w2.heap.size w2 wr3) (fun _ i _ => q - (intOf i).toNat)
                      case atStart => exact ⟨0, Nat.zero_le _, rfl, rfl, HB9.out⟩
                      case round =>
                        obtain ⟨e, he, rfl, rfl, hb8⟩ := hrel
                        have HB8 := Lib.hid hb8
                        have r1 := (HTA.out _ hb8).2.1 k hlt
                        have hze := cnt1_le (fun o => hF x o p) e
                        by_cases hed : e < q
                        · have hei : (e : Int) < (q : Int) := by omega
                          obtain ⟨z, hz⟩ : ∃ z, cnt1 (fun o => hF x o p) e = z := ⟨_, rfl⟩
                          have hsz : cnt1 (fun o => hF x o p) (e + 1) = cnt1 (fun o => hF x o p) e + if (fun o => hF x o p) e = true then 1 else 0 := rfl
                          rw [hz] at hze hsz ⊢
                          have HZ := Lib.hid hz
                          have hwz : IntKind.i64.wrap ((z : Int) + 1) = (z : Int) + 1 := by rw [IntKind.wrap_i64] <;> omega
                          clear hz
                          have c1 := (HxA.out _ hb8).1 e hed
                          have c2 := (HxA.out _ hb8).2 e p hed hpd
                          cases hxv : hF x e p
                          · have HS := Lib.hid (show cnt1 (fun o => hF x o p) (e + 1) = z by rw [hsz, if_neg (by show ¬ hF x e p = true; rw [hxv]; simp)]; rfl)
                            rw [hxv] at c2
                            clear hsz hxv hb8
                            go_wp2
                            go_roundw
                            case rel => exact ⟨e + 1, by omega, by go_num, by rw [HS.out], HB8.out⟩
                            case measure => simp [intOf]; omega
                          · have HS := Lib.hid (show cnt1 (fun o => hF x o p) (e + 1) = z + 1 by rw [hsz, if_pos (by show hF x e p = true; exact hxv)])
                            rw [hxv] at c2
                            clear hsz hxv hb8
                            go_wp2
                            go_roundw
                            case rel => exact ⟨e + 1, by omega, by go_num, by rw [HS.out]; go_num, HB8.out⟩
                            case measure => simp [intOf]; omega
                        · obtain rfl : q = e := by omega
                          clear hed hze he
                          clear r1 hb8
                          obtain ⟨z2, hz2⟩ : ∃ z, cnt1 (fun o => hF x o p) q = z := ⟨_, rfl⟩
                          have hz22 : (1 : Int) < (z2 : Int) := by
                            have := HC2.out
                            rw [hz2] at this
                            omega
                          rw [hz2]
                          clear hz2
                          cases s
                          · go_wp2
                            go_roundw
                            case rel => exact ⟨p + 1, by omega, by go_num, ⟨true, rfl, rfl, fun h => by cases h⟩, HB8.out⟩
                            case measure => simp [intOf]; omega
                          · go_wp2
                            go_roundw
                            case rel => exact ⟨p + 1, by omega, by go_num, ⟨true, rfl, rfl, fun h => by cases h⟩, HB8.out⟩
                            case measure => simp [intOf]; omega
            · obtain rfl : d = p := by omega
              clear hb6
              go_wp2
              go_roundw
              case rel => exact ⟨k + 1, by omega, by go_num, ⟨s, rfl, rfl, fun h => (HSN.out h).row⟩, HB6.out⟩
              case measure => simp [intOf]; omega
        · obtain rfl : q = k := by omega
          cases s
          · exfalso
            obtain ⟨a, b, ha, hb, hn⟩ := step_any HR.out
            have h9 := (HSN0.out rfl).1 a b (by rw [← HQ.out]; exact ha) (by rw [← HDD.out]; exact hb)
            rw [hn] at h9
            cases h9
          · clear hb5
            go_wp2
            go_ret
            exact ⟨rfl, HB.out.trans (HB5.out.mono HB.out.size)⟩
end Go.Proofs.YtobgceebolmfcaaDoor
