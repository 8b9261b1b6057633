/-
  Proved: for every string and every slice of types, together of bulk at most 1048576, the law camletlaw08.TyMakes returns true and leaves its arguments as they were (P803: a function's type, and a constructor's, of up to four types). Condition: the statement's own bound alone.
-/
import Derived.Test.YtijhajemiioknaaRows
import Derived.Test.YtijhajemiioknaaKit
import Derived.ChangeMaps5
import Derived.ShutString
import Derived.Test.YtijhajemiioknaaTyO
import Derived.Test.YtijhajemiioknaaTyMk
namespace Go.Proofs.Ytijhajemiioknaa.tyMakesUpto
open Go.ChangeShapes Go.WideShapes Go.ChangeAt Go.RowKit
set_option linter.unusedVariables false

theorem own : ownKnob Try.prog.godebug = none := by kernel_rfl
theorem laidOut : laidOutB Try.prog = true := by kernel_rfl
theorem makes_any (s : ByteArray) (hs : s.size ≤ 1048576) (l : List Tt) (hl : l.length ≤ 1048576) (A : Option Addr) (c : Nat) (hlc : l.length ≤ c) (hc : c ≤ maxLen) (w : World) (h : Rows TyR 4 w (Lt w.heap.size) A l) :
    Calls Try.prog 4 #[.string s, .slice A l.length c] w fun e w' => e = .returned (.bool true) ∧ Below w.heap.size w w' := by
  match l, hl, h, hlc with
  | [], _, h, _ => exact makes0 s hs A c w h
  | [.mk k0 n0 s0 l0], _, h, _ => exact makes1 s hs k0 n0 s0 l0 A c w h
  | [.mk k0 n0 s0 l0, .mk k1 n1 s1 l1], _, h, _ => exact makes2 s hs k0 n0 s0 l0 k1 n1 s1 l1 A c w h
  | [.mk k0 n0 s0 l0, .mk k1 n1 s1 l1, .mk k2 n2 s2 l2], _, h, _ => exact makes3 s hs k0 n0 s0 l0 k1 n1 s1 l1 k2 n2 s2 l2 A c w h
  | [.mk k0 n0 s0 l0, .mk k1 n1 s1 l1, .mk k2 n2 s2 l2, .mk k3 n3 s3 l3], _, h, _ => exact makes4 s hs k0 n0 s0 l0 k1 n1 s1 l1 k2 n2 s2 l2 k3 n3 s3 l3 A c w h
  | .mk k0 n0 s0 l0 :: .mk k1 n1 s1 l1 :: .mk k2 n2 s2 l2 :: .mk k3 n3 s3 l3 :: x :: r, hl, h, hlc =>
    refine makes4s s hs k0 n0 s0 l0 k1 n1 s1 l1 k2 n2 s2 l2 k3 n3 s3 l3 A c _ ?_ hl hlc hc w ?_
    · simp only [List.length_cons]; omega
    · intro i t ht
      refine h i t ?_
      have hi := (List.getElem?_eq_some_iff.1 ht).1
      simp only [List.length_cons, List.length_nil] at hi
      match i, hi, ht with
      | 0, _, ht => exact ht
      | 1, _, ht => exact ht
      | 2, _, ht => exact ht
      | 3, _, ht => exact ht
set_option maxRecDepth 100000 in
theorem core (s : ByteArray) (hs : s.size ≤ maxLen) {H : Type} {enc : TypeId × Value → H} {W : World} (v : Value) (d : DataW H) (p : List MemPlace) (o : Value.okWide Try.prog W .any 0 23 v) (r : DataW.Trod enc Try.prog W 0 (fun _ => true) true 23 v d p)
    (hk : Rows.uptoSmall H [.lit (.string s.data.toList), d] = true) : Calls Try.prog 4 #[.string s, v] W fun e w' => e = .returned (.bool true) ∧ Below W.heap.size W w' := by
  have hb := bulk_bound hk
  simp only [Rows.uptoBulkAll, Rows.uptoBulk, Array.length_toList] at hb
  have hsz : s.data.size = s.size := rfl
  rw [hsz] at hb
  obtain ⟨fuel, hr⟩ := r
  obtain ⟨a0, len0, cap0, rfl⟩ := okWide_slice Try.underlying23 o
  obtain ⟨l, A, c, hv, hrows, hbl, hlc, hc⟩ := tys_open (y := (d, p)) hr (show Rows.uptoBulk d ≤ 1048576 by omega)
  rw [hv]
  have hl := bulkL_len l
  have hbl' : bulkL l + 1 ≤ Rows.uptoBulk d := hbl
  exact makes_any s (by omega) l (by omega) A c hlc hc W hrows

set_option maxRecDepth 100000 in
/-- WHAT THE WALK GIVES THE ROW. -/
theorem contract (H : Type) (enc : TypeId × Value → H) (W : World) (base : Nat) (args : Array Value) (ds gs : List (DataW H)) (before : List MemPlace)
    (hval : ∀ (j : Nat) t v, Try.f4.params[j]? = some t → args[j]? = some v → Value.okWide Try.prog W .any base t v)
    (hW : DataW.Whole enc Try.prog Try.f4.params.toList Rows.tyMakesSpec.vars false W args.toList ds gs before) (hk : Rows.uptoSmall H (ds ++ gs) = true) :
    Calls Try.prog 4 args W fun e W' => ∃ v, e = .returned v ∧ Rows.tyMakesSpec.post enc Try.prog Try.f4 false true false false W args v W' := by
  have hW' := hW
  obtain ⟨p, q, hA0, hV, rfl, hfz, hnd⟩ := hW
  have hA : DataW.TrodAll enc Try.prog W 0 (fun _ => true) true Try.f4.params.toList args.toList ds p := hA0
  rw [Try.params4] at hA hval
  obtain ⟨v0, vs0, d0, ds0, p0, q0, hargs, rfl, rfl, h0, r0⟩ := trodAll_cons hA
  obtain ⟨v1, vs1, d1, ds1, p1, q1, rfl, rfl, rfl, h1, r1⟩ := trodAll_cons r0
  obtain ⟨rfl, rfl, rfl⟩ := trodAll_nil r1
  obtain rfl : args = #[v0, v1] := by cases args; simp_all
  obtain ⟨rfl, rfl⟩ := trodVars_none hV
  obtain ⟨a0, rfl, rfl, rfl, w0⟩ := ChangeMaps.open_string Try.underlying9 (hval 0 9 v0 rfl rfl) h0
  rw [List.append_nil] at hk
  refine (core a0 w0 v1 d1 p1 (hval 1 23 v1 rfl rfl) h1 hk).mono fun e W' ⟨he, hb⟩ => ?_
  subst he
  exact ⟨_, rfl, law_post laidOut (by intro t ht; rw [Try.params4] at ht; revert t; exact (by decide +kernel : ∀ t ∈ [9, 23], Try.prog.readableRec t = true ∧ t < Try.prog.types.size)) rfl rfl rfl Try.underlying4 hW' hb⟩

/-- A WORLD FOR THE WITNESS. -/
noncomputable def laidWorld (os : Os) : World := World.holding Try.prog os ⟨#[], #[], []⟩
theorem laid_met (os : Os) : laidMet Try.prog Rows.tyMakesUptoRow.laid ((laidWorld os).forCall (fun _ _ => 0) ⟨#[], #[.string ⟨#[]⟩, .slice none 0 0], []⟩).memory :=
  laidMet_of_run' 8 (by kernel_rfl) (by kernel_rfl)
theorem reads (os : Os) {H : Type} (enc : TypeId × Value → H) : ∃ places, DataW.whole enc Try.prog ((laidWorld os).forCall (fun _ _ => 0) ⟨#[], #[.string ⟨#[]⟩, .slice none 0 0], []⟩).memory Try.f4.params.toList Rows.tyMakesSpec.vars false (#[.string ⟨#[]⟩, .slice none 0 0] : Array Value).toList 8 = some ([.lit (.string []), .nil], [], places) :=
  ⟨[], by kernel_rfl⟩
set_option maxRecDepth 100000 in
theorem lifted (os : Os) (started : os.Started) (H : Type) (enc : TypeId × Value → H) (F : Stop.Interp) :
    ReturnsInHanded {} Try.checked os 4 .any ((Rows.OpenSpec.upto Rows.tyMakesSpec).preRow enc Try.prog Try.f4 Rows.tyMakesUptoRow.domain false Rows.tyMakesUptoRow.laid) (((Rows.OpenSpec.upto Rows.tyMakesSpec).at F).post enc Try.prog Try.f4 false true false false) := by
  obtain ⟨places, hx⟩ := reads os enc
  refine returnsInHanded_of_row (C := Try.checked) (s := (Rows.OpenSpec.upto Rows.tyMakesSpec)) own started (by kernel_rfl) Try.func4
    (witness_row_at (enc := enc) (C := Try.checked) false (laidWorld os) #[.string ⟨#[]⟩, .slice none 0 0] rfl (by kernel_rfl) (by kernel_rfl) (by kernel_rfl)
      (OpenSpec.preRow_of_cond 8 hx (by kernel_rfl) (fun k hk => by cases hk; kernel_rfl) (by kernel_rfl) (laid_met os))) ?_
  intro W base args ds gs before hval hW _ hcond hz hL hs _
  exact contract H enc W base args ds gs before hval hW (hcond _ rfl)
theorem said : Rows.TyMakesUptoSaid :=
  OpenClaim.holds_of_cond 4 Try.f4 rfl rfl rfl rfl rfl rfl rfl ⟨rfl, rfl, rfl, rfl, rfl⟩ rfl rfl rfl rfl rfl (by kernel_rfl) Try.func4 (by kernel_rfl)
    (of_decide_eq_true (by kernel_rfl)) (by unfold Func.isWrapper; first | (rw [if_pos (by decide +kernel)]; kernel_rfl) | (rw [if_neg (by decide +kernel)]; exact ⟨rfl, rfl⟩))
    (fun os started H enc _ F => by rw [OpenClaim.pre_eq_preRow]; exact lifted os started H enc F)
theorem proved : Rows.TyMakesUptoSaid := said
#print axioms proved
end Go.Proofs.Ytijhajemiioknaa.tyMakesUpto
