/- Counting people, by values. -/
import Derived.Test.YtjgohakiodcjmaaA1
import Derived.Test.YtjgohakiodcjmaaA2
import Derived.Test.YtjgohakiodcjmaaA4
set_option maxRecDepth 100000
namespace Go.Proofs.Ytjgohakiodcjmaa
open Go.RowKit

/-- Block b is one node of the program's linked list: a person and the pointer to the next node. -/
def Nd (t : TypeId) (w : World) (b : Nat) (p : Pn) (x : Value) : Prop := w.heap[b]? = some (.cells #[.int .i64 p.area, .int .i64 p.job, .int .i64 p.sex, .int .i64 p.pay, x] t (0, 0))
def Chain (t : TypeId) (w : World) : Nat → Value → List Pn → Prop
  | _, v, [] => v = .pointer none
  | lo, v, p :: l => ∃ b x, lo ≤ b ∧ v = .pointer (some ⟨b, 0, none⟩) ∧ Nd t w b p x ∧ Chain t w (b + 1) x l
/-- From node h by next pointers through the people f to node m. -/
def Path (t : TypeId) (w : World) : Nat → List Pn → Nat → Prop
  | h, [], m => h = m
  | h, p :: f, m => ∃ b, h < b ∧ (∃ q, Nd t w h q (.pointer (some ⟨b, 0, none⟩))) ∧ (∃ x, Nd t w b p x) ∧ Path t w b f m

section
variable {t : TypeId} {w w' : World} {b h m : Nat} {p q : Pn} {x y : Value}
theorem Nd.lt (hn : Nd t w b p x) : b < w.heap.size := by
  rcases Nat.lt_or_ge b w.heap.size with hlt | hge
  · exact hlt
  · unfold Nd at hn; rw [Array.getElem?_eq_none hge] at hn; cases hn
theorem Nd.cells (hn : Nd t w b p x) : w.cell? ⟨b, 0, none⟩ = some (.int .i64 p.area) ∧ w.cell? ⟨b, 1, none⟩ = some (.int .i64 p.job) ∧ w.cell? ⟨b, 2, none⟩ = some (.int .i64 p.sex) ∧
    w.cell? ⟨b, 3, none⟩ = some (.int .i64 p.pay) ∧ w.cell? ⟨b, 4, none⟩ = some x ∧ w.frozen? ⟨b, 4, none⟩ = false :=
  ⟨cell_of_row w b 0 _ _ _ hn, cell_of_row w b 1 _ _ _ hn, cell_of_row w b 2 _ _ _ hn, cell_of_row w b 3 _ _ _ hn, cell_of_row w b 4 _ _ _ hn, frozen_of_row w b 4 _ _ hn⟩
theorem Nd.inj (h1 : Nd t w b p x) (h2 : Nd t w b q y) : p = q ∧ x = y := by
  unfold Nd at h1 h2
  rw [h1] at h2
  simp only [Option.some.injEq, Obj.cells.injEq, Array.mk.injEq, List.cons.injEq, Value.int.injEq, true_and, and_true] at h2
  obtain ⟨a1, a2, a3, a4, a5⟩ := h2
  cases p; cases q; simp_all
theorem Nd.keep (hn : Nd t w b p x) (hk : w'.heap[b]? = w.heap[b]?) : Nd t w' b p x := hk.trans hn
theorem Nd.alloc (hn : Nd t w b p x) (o : Obj) : Nd t (w.alloc o) b p x := hn.keep (Below.heap_alloc w o b hn.lt)
theorem Nd.new (w : World) (t : TypeId) (p : Pn) (x : Value) : Nd t (w.alloc (.cells #[.int .i64 p.area, .int .i64 p.job, .int .i64 p.sex, .int .i64 p.pay, x] t)) w.heap.size p x := heap_alloc_new w _
theorem Nd.set_ (hn : Nd t w b p x) (y : Value) : Nd t (w.setCell ⟨b, 4, none⟩ y) b p y := by
  unfold Nd at hn ⊢
  simp [World.setCell, Array.getElem?_modify, hn]
theorem Nd.far (hn : Nd t w b p x) (hne : b ≠ m) (o : Nat) (y : Value) : Nd t (w.setCell ⟨m, o, none⟩ y) b p x :=
  hn.keep (Below.heap_setCell w ⟨m, o, none⟩ y b hne)
theorem Chain.keep {l : List Pn} : ∀ {lo : Nat} {v : Value}, Chain t w lo v l → (∀ b, lo ≤ b → b < w.heap.size → w'.heap[b]? = w.heap[b]?) → Chain t w' lo v l := by
  induction l with
  | nil => intro lo v hc _; exact hc
  | cons p l ih =>
    intro lo v hc hk
    obtain ⟨b, x, hlo, hv, hn, hc⟩ := hc
    exact ⟨b, x, hlo, hv, hn.keep (hk b hlo hn.lt), ih hc fun b' hb' hlt => hk b' (by omega) hlt⟩
theorem Chain.less {l : List Pn} {lo lo' : Nat} {v : Value} (hc : Chain t w lo v l) (hl : lo' ≤ lo) : Chain t w lo' v l := by
  cases l with
  | nil => exact hc
  | cons p l => obtain ⟨b, x, hlo, r⟩ := hc; exact ⟨b, x, by omega, r⟩
theorem Path.le {f : List Pn} : ∀ {h : Nat}, Path t w h f m → h ≤ m := by
  induction f with
  | nil => intro h hp; exact Nat.le_of_eq hp
  | cons p f ih => intro h hp; obtain ⟨b, hlt, _, _, hp⟩ := hp; have := ih hp; omega
theorem Path.keep {f : List Pn} : ∀ {h : Nat}, Path t w h f m → (∀ b, b < w.heap.size → w'.heap[b]? = w.heap[b]?) → Path t w' h f m := by
  induction f with
  | nil => intro h hp _; exact hp
  | cons p f ih =>
    intro h hp hk
    obtain ⟨b, hlt, ⟨q, hq⟩, ⟨x, hx⟩, hp⟩ := hp
    exact ⟨b, hlt, ⟨q, hq.keep (hk _ hq.lt)⟩, ⟨x, hx.keep (hk _ hx.lt)⟩, ih hp hk⟩
theorem Path.alloc {f : List Pn} (hp : Path t w h f m) (o : Obj) : Path t (w.alloc o) h f m := hp.keep fun b hb => Below.heap_alloc w o b hb
theorem Path.set_ {f : List Pn} (y : Value) : ∀ {h : Nat}, Path t w h f m → Path t (w.setCell ⟨m, 4, none⟩ y) h f m := by
  induction f with
  | nil => intro h hp; exact hp
  | cons p f ih =>
    intro h hp
    obtain ⟨b, hlt, ⟨q, hq⟩, ⟨x, hx⟩, hp⟩ := hp
    have hle := hp.le
    refine ⟨b, hlt, ⟨q, hq.far (by omega) 4 y⟩, ?_, ih hp⟩
    by_cases e : b = m
    · subst e; exact ⟨y, hx.set_ y⟩
    · exact ⟨x, hx.far e 4 y⟩
theorem Path.snoc {f : List Pn} : ∀ {h : Nat}, Path t w h f m → m < b → Nd t w m q (.pointer (some ⟨b, 0, none⟩)) → Nd t w b p x → Path t w h (f ++ [p]) b := by
  induction f with
  | nil => intro h hp hlt hq hn; cases hp; exact ⟨b, hlt, ⟨q, hq⟩, ⟨x, hn⟩, rfl⟩
  | cons p' f ih =>
    intro h hp hlt hq hn
    obtain ⟨b', hlt', hq', hx', hp⟩ := hp
    exact ⟨b', hlt', hq', hx', ih hp hlt hq hn⟩
theorem Path.chain {f l : List Pn} : ∀ {h : Nat}, Path t w h f m → Nd t w m q x → Chain t w (m + 1) x l → ∃ q' y, Nd t w h q' y ∧ Chain t w (h + 1) y (f ++ l) := by
  induction f with
  | nil => intro h hp hn hc; cases hp; exact ⟨q, x, hn, hc⟩
  | cons p f ih =>
    intro h hp hn hc
    obtain ⟨b, hlt, ⟨q', hq'⟩, ⟨x', hx'⟩, hp⟩ := hp
    obtain ⟨q'', y, hn', hc'⟩ := ih hp hn hc
    obtain ⟨rfl, rfl⟩ := hn'.inj hx'
    exact ⟨q', _, hq', b, y, hlt, rfl, hn', hc'⟩
end
end Go.Proofs.Ytjgohakiodcjmaa
namespace Go.Proofs.Ytjgohakiodcjmaa
open Go.RowKit
def cnt (l : List Pn) (a j s : Int) : Int := ((l.filter (fun p => fit3 p a j s)).length : Nat)
def psum (l : List Pn) (a j s : Int) : Int := ((l.filter (fun p => fit3 p a j s)).map Pn.pay).sum
def askOk (l : List Pn) (a j s : Int) : Bool := okL l && ask3 a j s
def many (l : List Pn) (a j s : Int) : Int := if askOk l a j s = true then cnt l a j s else -1
def pay (l : List Pn) (a j s : Int) : Int := if askOk l a j s = true then psum l a j s else -1

theorem cnt_take (l : List Pn) (a j s : Int) (k : Nat) (hk : k < l.length) : cnt (l.take (k + 1)) a j s = cnt (l.take k) a j s + if fit3 l[k] a j s = true then 1 else 0 := by
  rw [List.take_succ_eq_append_getElem hk]; simp only [cnt, List.filter_append, List.length_append, List.filter_cons, List.filter_nil]
  split <;> simp
theorem psum_take (l : List Pn) (a j s : Int) (k : Nat) (hk : k < l.length) : psum (l.take (k + 1)) a j s = psum (l.take k) a j s + if fit3 l[k] a j s = true then l[k].pay else 0 := by
  rw [List.take_succ_eq_append_getElem hk]; simp only [psum, List.filter_append, List.map_append, List.filter_cons, List.filter_nil]
  split <;> simp
theorem cnt_bd (l : List Pn) (a j s : Int) : 0 ≤ cnt l a j s ∧ cnt l a j s ≤ l.length := by
  have := List.length_filter_le (fun p => fit3 p a j s) l
  simp only [cnt]; omega
theorem psum_bd (l : List Pn) (a j s : Int) (h : l.all okP = true) : 0 ≤ psum l a j s ∧ psum l a j s ≤ 999 * l.length := by
  induction l with
  | nil => simp [psum]
  | cons p l ih =>
    simp only [List.all_cons, Bool.and_eq_true] at h
    have hp := okP_pay h.1
    have hi := ih h.2
    simp only [psum, List.filter_cons, List.length_cons] at *
    split
    · simp only [List.map_cons, List.sum_cons]; omega
    · omega
end Go.Proofs.Ytjgohakiodcjmaa
namespace Go.Proofs.Ytjgohakiodcjmaa
open Go.RowKit
end Go.Proofs.Ytjgohakiodcjmaa
namespace Go.Proofs.Ytjgohakiodcjmaa
open Go.RowKit
abbrev TL : TypeId := 70
def p0 : Pn := ⟨0, 0, 0, 0⟩
theorem link_step {wr : World} {h m : Nat} {f : List Pn} {q : Pn} (p : Pn) (O : Obj) (hp : Path TL wr h f m) (hn : Nd TL wr m q (.pointer none)) :
    Path TL (((wr.setCell ⟨m, 4, none⟩ (.pointer (some ⟨wr.heap.size + 1, 0, none⟩))).alloc O).alloc (.cells #[.int .i64 p.area, .int .i64 p.job, .int .i64 p.sex, .int .i64 p.pay, .pointer none] TL)) h (f ++ [p]) (wr.heap.size + 1) ∧
    Nd TL (((wr.setCell ⟨m, 4, none⟩ (.pointer (some ⟨wr.heap.size + 1, 0, none⟩))).alloc O).alloc (.cells #[.int .i64 p.area, .int .i64 p.job, .int .i64 p.sex, .int .i64 p.pay, .pointer none] TL)) (wr.heap.size + 1) p (.pointer none) := by
  have hz : ((wr.setCell ⟨m, 4, none⟩ (.pointer (some ⟨wr.heap.size + 1, 0, none⟩))).alloc O).heap.size = wr.heap.size + 1 := by simp
  have hnew := Nd.new ((wr.setCell ⟨m, 4, none⟩ (.pointer (some ⟨wr.heap.size + 1, 0, none⟩))).alloc O) TL p (.pointer none)
  rw [hz] at hnew
  have hlt := hn.lt
  exact ⟨(((hp.set_ _).alloc O).alloc _).snoc (by omega) (((hn.set_ _).alloc O).alloc _) hnew, hnew⟩
theorem link_any (l : List Pn) (A : Option Addr) (c : Nat) (w : World) (hr : Row w w.heap.size A (pcells l)) (hl : l.length ≤ 40) :
    Calls Try.prog 45 #[.slice A l.length c] w fun e w' => e = .returned (.pointer (some ⟨w.heap.size, 0, none⟩)) ∧ (∃ q y, Nd TL w' w.heap.size q y ∧ Chain TL w' (w.heap.size + 1) y l) ∧ Below w.heap.size w w' := by
  go_enter Try.func45, Try.ntmps45
  go_wp2
  go_loopw [4, 12] (fun v i wr => ∃ k : Nat, k ≤ l.length ∧ i = .int .i64 k ∧ Below w.heap.size w wr ∧ ∃ m q, v = .pointer (some ⟨m, 0, none⟩) ∧ w.heap.size ≤ m ∧ Path TL wr w.heap.size (l.take k) m ∧ Nd TL wr m q (.pointer none)) (fun _ i _ => l.length - (intOf i).toNat)
  case atStart => exact ⟨0, Nat.zero_le _, rfl, (Below.refl _ _).alloc (Nat.le_refl _) _, w.heap.size, p0, rfl, Nat.le_refl _, rfl, Nd.new w TL p0 _⟩
  case round =>
    obtain ⟨k, hk, rfl, hb1, m, q, rfl, hm, hp, hn⟩ := hrel
    have HP := Lib.hid hp; clear hp
    have HN := Lib.hid hn; clear hn
    have hz1 := hb1.size
    by_cases hlt : k < l.length
    · obtain ⟨b, o, rfl, hbw, c0, c1, c2, c3⟩ := (hr.below hb1 (Nat.le_refl _)).at_ k hlt
      have hbr : b < wr.heap.size := by omega
      obtain ⟨n0, n1, n2, n3, n4, n5⟩ := HN.out.cells
      have hmr := HN.out.lt
      go_wp2
      go_roundw
      case rel =>
        obtain ⟨s1, s2⟩ := link_step l[k] (.cells #[.int .i64 l[k].area, .int .i64 l[k].job, .int .i64 l[k].sex, .int .i64 l[k].pay] 43) HP.out HN.out
        refine ⟨k + 1, by omega, by go_num, ((hb1.setCell (p := ⟨m, 4, none⟩) hm _).alloc (by simp; omega) _).alloc (by simp; omega) _, wr.heap.size + 1, l[k], rfl, by omega, ?_, s2⟩
        rw [List.take_succ_eq_append_getElem hlt]
        exact s1
      case measure => simp [intOf]; omega
    · go_wp2
      go_ret
      refine ⟨rfl, ?_, hb1⟩
      have hc := HP.out.chain HN.out (l := []) rfl
      rw [List.take_of_length_le (by omega), List.append_nil] at hc
      exact hc

theorem Chain.ptr {t : TypeId} {w : World} {lo : Nat} {v : Value} {l : List Pn} (h : Chain t w lo v l) : ∃ u, v = .pointer u := by
  cases l with
  | nil => exact ⟨_, h⟩
  | cons p l => obtain ⟨b, x, _, hv, _⟩ := h; exact ⟨_, hv⟩
theorem cut_any (m b : Nat) (q p : Pn) (u : Option Addr) (w : World) (hm : Nd TL w m q (.pointer (some ⟨b, 0, none⟩))) (hb : Nd TL w b p (.pointer u)) :
    Calls Try.prog 46 #[.pointer (some ⟨m, 0, none⟩)] w fun e w' => e = .returned (.tuple #[]) ∧ w.setCell ⟨m, 4, none⟩ (.pointer u) = w' := by
  obtain ⟨_, _, _, _, n4, n5⟩ := hm.cells
  obtain ⟨_, _, _, _, x4, _⟩ := hb.cells
  clear hm hb
  go_enter Try.func46, Try.ntmps46
  go_wp2
  go_end0
  exact ⟨rfl, rfl⟩

/-- What 'choosePeople' hands back. -/
def Chosen (l : List Pn) (a j s : Int) (w : World) (e : Ending) (w' : World) : Prop :=
  if askOk l a j s = true then ∃ h q y, e = .returned (.tuple #[.pointer (some ⟨h, 0, none⟩), .bool true]) ∧ w.heap.size ≤ h ∧ Nd TL w' h q y ∧ Chain TL w' (h + 1) y (l.filter (fun p => fit3 p a j s)) ∧ Below w.heap.size w w'
  else e = .returned (.tuple #[.pointer none, .bool false]) ∧ Below w.heap.size w w'

theorem filt_take (l : List Pn) (a j s : Int) (k : Nat) (hk : k < l.length) :
    (l.take (k + 1)).filter (fun p => fit3 p a j s) = (l.take k).filter (fun p => fit3 p a j s) ++ if fit3 l[k] a j s = true then [l[k]] else [] := by
  rw [List.take_succ_eq_append_getElem hk, List.filter_append, List.filter_cons, List.filter_nil]
theorem cut_rel {wr : World} {H m b : Nat} {f r : List Pn} {q : Pn} {x u : Value} (O : Obj) (hp : Path TL wr H f m) (hn : Nd TL wr m q x) (hc : Chain TL wr (b + 1) u r) (hb : m < b + 1) :
    Path TL ((wr.setCell ⟨m, 4, none⟩ u).alloc O) H f m ∧ Nd TL ((wr.setCell ⟨m, 4, none⟩ u).alloc O) m q u ∧ Chain TL ((wr.setCell ⟨m, 4, none⟩ u).alloc O) (m + 1) u r := by
  refine ⟨(hp.set_ u).alloc O, (hn.set_ u).alloc O, (hc.keep fun b' h1 h2 => ?_).less (by omega)⟩
  rw [Below.heap_alloc _ _ _ (by simpa using h2), Below.heap_setCell _ _ _ _ (by show b' ≠ m; omega)]
theorem go_rel {wr : World} {H m b : Nat} {f r : List Pn} {q p : Pn} {u : Value} (O : Obj) (hp : Path TL wr H f m) (hn : Nd TL wr m q (.pointer (some ⟨b, 0, none⟩))) (hb : Nd TL wr b p u) (hc : Chain TL wr (b + 1) u r) (hlt : m < b) :
    Path TL (wr.alloc O) H (f ++ [p]) b ∧ Nd TL (wr.alloc O) b p u ∧ Chain TL (wr.alloc O) (b + 1) u r := by
  refine ⟨(hp.snoc hlt hn hb).alloc O, hb.alloc O, hc.keep fun b' _ h2 => Below.heap_alloc _ _ _ h2⟩
end Go.Proofs.Ytjgohakiodcjmaa
namespace Go.Proofs.Ytjgohakiodcjmaa
open Go.RowKit
theorem sum_take (F : List Pn) (k : Nat) (hk : k < F.length) : ((F.take (k + 1)).map Pn.pay).sum = ((F.take k).map Pn.pay).sum + F[k].pay := by
  rw [List.take_succ_eq_append_getElem hk, List.map_append, List.sum_append]; simp
theorem sum_bd (F : List Pn) (h : F.all okP = true) : 0 ≤ (F.map Pn.pay).sum ∧ (F.map Pn.pay).sum ≤ 999 * F.length := by
  induction F with
  | nil => simp
  | cons p l ih =>
    simp only [List.all_cons, Bool.and_eq_true] at h
    have hp := okP_pay h.1
    have hi := ih h.2
    simp only [List.map_cons, List.sum_cons, List.length_cons] at *
    omega
end Go.Proofs.Ytjgohakiodcjmaa
namespace Go.Proofs.Ytjgohakiodcjmaa
open Go.RowKit
theorem iPeopleValid_is (W : World) (l : List Pn) (v : Value) (hv : IsP W v l) (g : Bool) (hg : okL l = g) (w : World) (hb : Below W.heap.size W w) :
    Calls Try.prog 30 #[v] w (Back (.bool g) W) := by
  subst hg
  obtain ⟨A, c, rfl, a1, a2, a3⟩ := hv
  exact (valid_any l A c w (a3.moved hb) (Nat.le_trans a1 a2)).mono fun _ _ h => ⟨h.1, hb.trans (h.2.mono hb.size)⟩
end Go.Proofs.Ytjgohakiodcjmaa
