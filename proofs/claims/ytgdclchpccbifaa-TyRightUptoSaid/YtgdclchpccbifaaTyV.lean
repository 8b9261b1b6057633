/-
  THE CONTRACTS OF ty AND OF THE REFERENCE, ON VALUES THAT READ AS TYPES.
-/
import Derived.Test.YtgdclchpccbifaaTyK
namespace Go.Proofs.Ytgdclchpccbifaa
open Go.ChangeShapes Go.WideShapes Go.ChangeAt Go.RowKit
set_option linter.unusedVariables false
theorem range_row {w : World} {g : Nat} {t : TypeId} {cs : List Value} {fr : Nat × Nat} (h : w.heap[g]? = some (.cells cs.toArray t fr)) : w.rangeAt g 0 cs := fun j u hj => by
  rw [Nat.zero_add, cell_of_row w g j _ _ _ h]; simpa using hj
theorem lt_of_cells {w : World} {g : Nat} {o : Obj} (h : w.heap[g]? = some o) : g < w.heap.size := (Array.getElem?_eq_some_iff.1 h).1
theorem ints_lt {w : World} {B : Nat} {A : Option Addr} {x : Int} {l : List Int} (h : IntsAt w B A (x :: l)) (ad : Addr) (e : A = some ad) : ad.block < B := by
  obtain ⟨ad', e', hb, _⟩ := h 0 x rfl
  rw [e] at e'; cases e'; exact hb
/-- The value v reads as the type t. -/
def Val (w : World) (t : Tt) (v : Value) : Prop := ∃ A c, v = .agg #[.int .i64 t.kind, .int .i64 t.num, .string t.name, .slice A t.args.length c] ∧ TyR.rd w (Lt w.heap.size) t [.int .i64 t.kind, .int .i64 t.num, .string t.name, .slice A t.args.length c]
theorem Val.on {w w' : World} {t : Tt} {v : Value} (h : Val w t v) (hb : Below w.heap.size w w') : Val w' t v := by
  obtain ⟨A, c, rfl, h⟩ := h
  exact ⟨A, c, rfl, TyR.more (S := Lt w.heap.size) (fun b hB => Nat.lt_of_lt_of_le hB hb.size) (TyR.keep (Same.lt hb) h)⟩
theorem val_leaf (w : World) (k n : Int) (s : ByteArray) (hn : -9223372036854775808 ≤ n ∧ n ≤ 9223372036854775807) (hs : s.size ≤ 1048576) : Val w (.mk k n s []) (.agg #[.int .i64 k, .int .i64 n, .string s, .slice none 0 0]) :=
  ⟨none, 0, rfl, TyR.mk hn (by simp) hs Rows.nil⟩
/-- A type comes back. -/
def Gave (w : World) (t : Tt) (e : Ending) (w' : World) : Prop := ∃ v, e = .returned v ∧ Val w' t v ∧ Below w.heap.size w w'
theorem Made.gave {w : World} {B : Nat} {t : Tt} {e : Ending} {w' : World} (h : Made w B t e w') : Gave w t e w' := by
  obtain ⟨A, c, rfl, h1, h2⟩ := h
  exact ⟨_, rfl, ⟨A, c, rfl, TyR.more (fun b hb => hb.2) h1⟩, h2⟩
section
variable {w : World} {a b : Tt} {x y : Value}
theorem fn_val (ha : Val w a x) (hb : Val w b y) : Calls Try.prog 18 #[x, y] w (Gave w (.mk 2 0 ⟨#[45, 62]⟩ [a, b])) := by
  obtain ⟨A, c, rfl, ha⟩ := ha
  obtain ⟨A', c', rfl, hb⟩ := hb
  obtain ⟨k, n, s, l⟩ := a
  obtain ⟨k', n', s', l'⟩ := b
  exact (fn_any k n s l A c k' n' s' l' A' c' w _ (fun _ h => h) ha hb).mono fun _ _ h => h.gave
theorem rfn_val (ha : Val w a x) (hb : Val w b y) : Calls Try.prog 19 #[x, y] w (Gave w (.mk 2 0 ⟨#[45, 62]⟩ [a, b])) := by
  obtain ⟨A, c, rfl, ha⟩ := ha
  obtain ⟨A', c', rfl, hb⟩ := hb
  obtain ⟨k, n, s, l⟩ := a
  obtain ⟨k', n', s', l'⟩ := b
  exact (rfn_any k n s l A c k' n' s' l' A' c' w _ (fun _ h => h) ha hb).mono fun _ _ h => h.gave
theorem of_val (s : ByteArray) (l : List Tt) (A : Option Addr) (c : Nat) (hs : s.size ≤ 1048576) (hl : l.length ≤ 1048576) (h : Rows TyR 4 w (Lt w.heap.size) A l) : Calls Try.prog 17 #[.string s, .slice A l.length c] w (Gave w (.mk 2 0 s l)) :=
  (of_any s l A c w _ (fun _ h => h) hs hl h).mono fun _ _ h => h.gave
theorem rof_val (s : ByteArray) (l : List Tt) (A : Option Addr) (c : Nat) (hs : s.size ≤ 1048576) (hl : l.length ≤ 1048576) (h : Rows TyR 4 w (Lt w.heap.size) A l) : Calls Try.prog 20 #[.string s, .slice A l.length c] w (Gave w (.mk 2 0 s l)) :=
  (rof_any s l A c w _ (fun _ h => h) hs hl h).mono fun _ _ h => h.gave
theorem of_nil (s : ByteArray) (hs : s.size ≤ 1048576) : Calls Try.prog 17 #[.string s, .slice none 0 0] w (Gave w (.mk 2 0 s [])) := of_val s [] none 0 hs (by simp) Rows.nil
theorem same_val (ha : Val w a x) (hb : Val w b y) : Calls Try.prog 14 #[x, y] w fun e w' => e = .returned (.bool (sameT a b)) ∧ Below w.heap.size w w' := by
  obtain ⟨A, c, rfl, d, ha⟩ := ha
  obtain ⟨A', c', rfl, hb⟩ := hb
  obtain ⟨k, n, s, l⟩ := a
  obtain ⟨k', n', s', l'⟩ := b
  exact same_any d k n s l A c k' n' s' l' A' c' w _ (fun _ h => h) ha hb
theorem same_self (ha : Val w a x) (hb : Val w a y) : Calls Try.prog 14 #[x, y] w fun e w' => e = .returned (.bool true) ∧ Below w.heap.size w w' := by
  have := same_val ha hb
  rwa [sameT_refl] at this
theorem rsame5_val (ha : Val w a x) (hb : Val w b y) : Calls Try.prog 45 #[x, y] w fun e w' => e = .returned (.bool (sameT a b)) ∧ Below w.heap.size w w' := by
  obtain ⟨A, c, rfl, d, ha⟩ := ha
  obtain ⟨A', c', rfl, hb⟩ := hb
  obtain ⟨k, n, s, l⟩ := a
  obtain ⟨k', n', s', l'⟩ := b
  exact rsame_any d k n s l A c k' n' s' l' A' c' w _ (fun _ h => h) ha hb
theorem r8same_val (ha : Val w a x) (hb : Val w b y) : Calls Try.prog 15 #[x, y] w fun e w' => e = .returned (.bool (sameT a b)) ∧ Below w.heap.size w w' := by
  have ha' := ha
  have hb' := hb
  obtain ⟨A, c, rfl, _⟩ := ha
  obtain ⟨A', c', rfl, _⟩ := hb
  have HC : Hid (∀ w', Below w.heap.size w w' → Calls Try.prog 45 #[.agg #[.int .i64 a.kind, .int .i64 a.num, .string a.name, .slice A a.args.length c], .agg #[.int .i64 b.kind, .int .i64 b.num, .string b.name, .slice A' b.args.length c']] w' fun e w'' => e = .returned (.bool (sameT a b)) ∧ Below w'.heap.size w' w'') := Lib.hid fun w' h => rsame5_val (ha'.on h) (hb'.on h)
  have HB := Lib.hid ((below_new w (.cells #[.int .i64 a.kind, .int .i64 a.num, .string a.name, .slice A a.args.length c] 25)).alloc (by simp) (.cells #[.int .i64 b.kind, .int .i64 b.num, .string b.name, .slice A' b.args.length c'] 25))
  clear ha' hb'
  go_enter Try.func15, Try.ntmps15
  go_wp2_with fail
  refine (HC.out _ HB.out).mono ?_
  rintro e w1 ⟨rfl, hb1⟩
  have HB1 := Lib.hid hb1
  clear hb1
  go_wp2
  go_ret
  exact ⟨rfl, below_then HB.out HB1.out⟩
theorem r8self (ha : Val w a x) (hb : Val w a y) : Calls Try.prog 15 #[x, y] w fun e w' => e = .returned (.bool true) ∧ Below w.heap.size w w' := by
  have := r8same_val ha hb
  rwa [sameT_refl] at this
theorem size_val (ha : Val w a x) (hsz : (pre a).length ≤ 1048576) : Calls Try.prog 12 #[x] w fun e w' => e = .returned (.int .i64 ((pre a).length : Nat)) ∧ Below w.heap.size w w' := by
  obtain ⟨A, c, rfl, d, ha⟩ := ha
  obtain ⟨k, n, s, l⟩ := a
  exact size_any d k n s l A c w _ (fun _ h => h) ha hsz
theorem right_val (ha : Val w a x) (hsz : (pre a).length ≤ 1048576) (hlow : ∀ u ∈ pre a, LowOk u) : Calls Try.prog 10 #[x] w fun e w' => e = .returned (.bool (rightT a)) ∧ Below w.heap.size w w' := by
  obtain ⟨A, c, rfl, d, ha⟩ := ha
  obtain ⟨k, n, s, l⟩ := a
  exact right_any d k n s l A c w _ (fun _ h => h) ha hsz hlow
/-- A type numbered anew comes back, and its variables. -/
def GaveCanon (w : World) (t : Tt) (vs : List Int) (e : Ending) (w' : World) : Prop := ∃ v A c, e = .returned (.tuple #[v, .slice A vs.length c]) ∧ Val w' t v ∧ IntsAt w' w'.heap.size A vs ∧ vs.length ≤ c ∧ c ≤ maxLen ∧ Below w.heap.size w w'
theorem canon_val (ha : Val w a x) (hsz : (pre a).length ≤ 1048576) : Calls Try.prog 23 #[x] w (GaveCanon w (canonT a) (varsT a)) := by
  obtain ⟨A, c, rfl, d, ha⟩ := ha
  obtain ⟨k, n, s, l⟩ := a
  refine (canon_any d k n s l A c w _ (fun _ h => h) ha hsz).mono ?_
  rintro e w' ⟨A1, c1, A2, c2, rfl, h1, h2, h3, h4, _, h5⟩
  exact ⟨_, A2, c2, rfl, ⟨A1, c1, rfl, TyR.more (fun b hb => hb.2) h1⟩, h2, h3, h4, h5⟩
/-- .. and where they lie. -/
theorem canon_new (ha : Val w a x) (hsz : (pre a).length ≤ 1048576) : Calls Try.prog 23 #[x] w (CanonMade w a) := by
  obtain ⟨A, c, rfl, d, ha⟩ := ha
  obtain ⟨k, n, s, l⟩ := a
  exact canon_any d k n s l A c w _ (fun _ h => h) ha hsz
theorem vars_val (ha : Val w a x) (hsz : (pre a).length ≤ 1048576) : Calls Try.prog 26 #[x] w (IntsMade w (varsT a)) := by
  obtain ⟨A, c, rfl, d, ha⟩ := ha
  obtain ⟨k, n, s, l⟩ := a
  exact vars_any d k n s l A c w _ (fun _ h => h) ha hsz
theorem put_val (ha : Val w a x) {ls : List Tt} {Al : Option Addr} {cl : Nat} (hR : Rows TyR 4 w (Lt w.heap.size) Al ls) (hl : ls.length ≤ 1048576) : Calls Try.prog 28 #[x, .slice Al ls.length cl] w (Gave w (putT ls a)) := by
  obtain ⟨A, c, rfl, d, ha⟩ := ha
  obtain ⟨k, n, s, l⟩ := a
  exact (put_any d k n s l A c ls Al cl w _ (fun _ h => h) ha hR hl).mono fun _ _ h => h.gave
theorem formed_val (ha : Val w a x) (hsz : (pre a).length ≤ 1048576) : Calls Try.prog 21 #[x] w fun e w' => e = .returned (.bool (formedT a)) ∧ Below w.heap.size w w' := by
  obtain ⟨A, c, rfl, d, ha⟩ := ha
  obtain ⟨k, n, s, l⟩ := a
  exact formed_any d k n s l A c w _ (fun _ h => h) hsz ha
end
/-! ### The chapter's example, plainly -/
def tA : Tt := .mk 1 0 ⟨#[]⟩ []
def tB : Tt := .mk 1 1 ⟨#[]⟩ []
def tC : Tt := .mk 1 2 ⟨#[]⟩ []
def fnT (a b : Tt) : Tt := .mk 2 0 ⟨#[45, 62]⟩ [a, b]
theorem canon_ex : canonT (fnT tC (fnT tA tC)) = fnT tA (fnT tB tA) := rfl
theorem vars_ex : varsT (fnT tC (fnT tA tC)) = [2, 0] := by decide
def tInt : Tt := .mk 2 0 ⟨#[105, 110, 116]⟩ []
def tRef : Tt := .mk 2 0 ⟨#[114, 101, 102]⟩ []
theorem right_int : rightT tInt = true := by decide
theorem right_ref : rightT tRef = false := by decide
theorem low_int : ∀ u ∈ pre tInt, LowOk u := by
  intro u hu
  simp [pre, preL, tInt] at hu
  subst hu
  intro _ _ h
  exact absurd (.inl rfl) h
theorem low_ref : ∀ u ∈ pre tRef, LowOk u := by
  intro u hu
  simp [pre, preL, tRef] at hu
  subst hu
  intro _ _ h
  exact absurd (.inr (.inr (.inr (.inr (.inl rfl))))) h
end Go.Proofs.Ytgdclchpccbifaa
