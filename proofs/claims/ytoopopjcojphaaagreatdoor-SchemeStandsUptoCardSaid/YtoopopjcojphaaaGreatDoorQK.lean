import Derived.Test.YtoopopjcojphaaaGreatDoorQA
import Derived.Test.YtoopopjcojphaaaGreatDoorQC
import Derived.Test.YtoopopjcojphaaaGreatDoorQI
import Derived.Test.YtoopopjcojphaaaGreatDoorQD
import Derived.Laws.EntriesVeiled
import Derived.Test.YtoopopjcojphaaaGreatDoorQJ
import Derived.Lib.AppendZeros
/-
  A MAP OF INTEGERS TO VALUES OF ANY TYPE, made by the call. Nothing of the program is named here.
-/
namespace Go.Proofs.YtoopopjcojphaaaGreatDoor
open Go.ChangeShapes Go.WideShapes Go.ChangeAt Go.RowKit
/-- An element stands for itself. -/
def heldElem (v : Value) : Option (DataW Value × List MemPlace) := some (.held v, [])
/-- Block b is a map, of at most n entries, that holds f. -/
def ValMap (P : Program) (k : TypeId) (w : World) (b n : Nat) (f : Int → Option Value) : Prop :=
  ∃ D : DataW Value, w.ownsMap P k heldElem b n D ∧ Maps.IsMap D ∧ ∀ x : Int, Maps.has D (.int .i64 x) = (f x).isSome ∧ ∀ v, f x = some v → ∀ z, D.atKey (.int .i64 x) z = .held v
section
variable {P : Program} {k e t : TypeId} {w w' : World} {b n : Nat} {f : Int → Option Value}
theorem ValMap.made (P : Program) (k : TypeId) (w : World) : ValMap P k (w.alloc (.map #[] 0)) w.heap.size 0 (fun _ => none) :=
  ⟨.map [], World.ownsMap_made _ _ _ _, Maps.isMap_empty, fun x => ⟨by simp [Maps.has], fun v h => by cases h⟩⟩
theorem ValMap.lt (h : ValMap P k w b n f) : b < w.heap.size := h.elim fun _ h => h.1.lt
theorem ValMap.block (h : ValMap P k w b n f) (hb : w'.heap[b]? = w.heap[b]?) : ValMap P k w' b n f := by
  obtain ⟨D, ⟨es, clock, h1, h3⟩, h2⟩ := h
  exact ⟨D, ⟨es, clock, hb.trans h1, h3⟩, h2⟩
theorem ValMap.on (h : ValMap P k w b n f) (hb : Below w.heap.size w w') : ValMap P k w' b n f := h.block (hb.block _ h.lt)
theorem ValMap.look_ok (h : ValMap P k w b n f) (hk : P.underlying k = some (.int .i64)) (ht : P.underlying t = some (.map k e)) {z : Value} (hz : (zeroValue e).run P w = .ok z w)
    {x : Int} (hx : -9223372036854775808 ≤ x ∧ x ≤ 9223372036854775807) : (Instr.lookup t (.map (some b)) (.int .i64 x) true).run P w = .ok (.tuple #[(f x).getD z, .bool (f x).isSome]) w := by
  obtain ⟨D, h1, h2, h3⟩ := h
  obtain ⟨v, ps, hrun, hv⟩ := h1.look_ok (Maps.int_keyed hk) ht hz (zd := .held z) (zp := []) rfl (Maps.keyOf_int_mk hk (wf64 hx))
  rw [(h3 x).1] at hrun
  rw [hrun]
  unfold heldElem at hv
  simp only [Option.some.injEq, Prod.mk.injEq] at hv
  cases hf : f x with
  | some u =>
    rw [(h3 x).2 u hf] at hv
    have := hv.1
    simp only [DataW.held.injEq] at this
    rw [this]; rfl
  | none =>
    rw [Maps.atKey_of_not_has (by rw [(h3 x).1, hf]; rfl)] at hv
    have := hv.1
    simp only [DataW.held.injEq] at this
    rw [this]; rfl
def putM (f : Int → Option Value) (x : Int) (v : Value) : Int → Option Value := fun y => if y = x then some v else f y
theorem ValMap.next {D : DataW Value} {x : Int} {v : Value} (h2 : Maps.IsMap D) (h3 : ∀ x : Int, Maps.has D (.int .i64 x) = (f x).isSome ∧ ∀ v, f x = some v → ∀ z, D.atKey (.int .i64 x) z = .held v)
    (h : w'.ownsMap P k heldElem b (n + 1) (D.put (.int .i64 x) (.held v))) : ValMap P k w' b (n + 1) (putM f x v) := by
  refine ⟨_, h, h2.put _ _, fun y => ?_⟩
  unfold putM
  by_cases hy : y = x
  · subst hy
    refine ⟨by rw [Maps.has_put_same h2 (show WideAt.IsKeyLit (.int .i64 y) from trivial)]; simp, fun u hu z => ?_⟩
    rw [Maps.atKey_put_same h2 (show WideAt.IsKeyLit (.int .i64 y) from trivial)]
    simp at hu; rw [hu]
  · refine ⟨?_, fun u hu z => ?_⟩
    · rw [Maps.has_put_other (int_ne_key hy), (h3 y).1]; simp [hy]
    · rw [if_neg hy] at hu
      rw [Maps.atKey_put_other (int_ne_key hy), (h3 y).2 u hu]
end
end Go.Proofs.YtoopopjcojphaaaGreatDoor
/-
  CONTRACTS OF scheme, I: rebuilt.
-/
namespace Go.Proofs.YtoopopjcojphaaaGreatDoor
open Go.ChangeShapes Go.WideShapes Go.ChangeAt Go.RowKit
set_option linter.unusedVariables false
def zV : Value := .agg #[.int .i64 0, .int .i64 0, .string ⟨#[]⟩, .slice none 0 0]
theorem zeroTy (w : World) : (zeroValue 25).run Tryz.prog w = .ok zV w := by kernel_rfl
/-- The map in block mb holds the types of f. -/
def TMap (w : World) (mb : Nat) (f : Int → Option Tt) : Prop := ∃ n f', ValMap Tryz.prog 3 w mb n f' ∧ ∀ x, match f x with | none => f' x = none | some u => ∃ v, f' x = some v ∧ Val w u v
theorem TMap.on {w w' : World} {mb : Nat} {f : Int → Option Tt} (h : TMap w mb f) (hb : Below w.heap.size w w') : TMap w' mb f := by
  obtain ⟨n, f', h1, h2⟩ := h
  refine ⟨n, f', h1.on hb, fun x => ?_⟩
  have := h2 x
  cases hf : f x with
  | none => rw [hf] at this; exact this
  | some u =>
    rw [hf] at this
    obtain ⟨v, hv, hV⟩ := this
    exact ⟨v, hv, hV.on hb⟩
/-- What a look into the map yields. -/
theorem TMap.look {w : World} {mb : Nat} {f : Int → Option Tt} (h : TMap w mb f) {x : Int} (hx : -9223372036854775808 ≤ x ∧ x ≤ 9223372036854775807) :
    (f x = none ∧ ∀ W, Below w.heap.size w W → (Instr.lookup 47 (.map (some mb)) (.int .i64 x) true).run Tryz.prog W = .ok (.tuple #[.agg #[.int .i64 0, .int .i64 0, .string ⟨#[]⟩, .slice none 0 0], .bool false]) W) ∨
    ∃ k n s l A c, f x = some (.mk k n s l) ∧ Val w (.mk k n s l) (.agg #[.int .i64 k, .int .i64 n, .string s, .slice A l.length c]) ∧ ∀ W, Below w.heap.size w W → (Instr.lookup 47 (.map (some mb)) (.int .i64 x) true).run Tryz.prog W = .ok (.tuple #[.agg #[.int .i64 k, .int .i64 n, .string s, .slice A l.length c], .bool true]) W := by
  obtain ⟨n, f', h1, h2⟩ := h
  have hL := fun W (hb : Below w.heap.size w W) => (h1.on hb).look_ok Tryz.underlying3 Tryz.underlying47 (zeroTy W) hx
  have := h2 x
  cases hf : f x with
  | none =>
    rw [hf] at this
    refine .inl ⟨rfl, fun W hb => ?_⟩
    rw [hL W hb, this]; rfl
  | some u =>
    rw [hf] at this
    obtain ⟨v, hv, hV⟩ := this
    obtain ⟨k, n, s, l⟩ := u
    have hV' := hV
    obtain ⟨A, c, rfl, _⟩ := hV
    refine .inr ⟨k, n, s, l, A, c, rfl, hV', fun W hb => ?_⟩
    rw [hL W hb, hv]; rfl
/-- The world of a node's copy that begins to grow: three blocks more, the first for the result. -/
structure Three (w : World) (k n : Int) (s : ByteArray) (W1 : World) : Prop where
  below : Below w.heap.size w W1
  size : W1.heap.size = w.heap.size + 3
  res : W1.heap[w.heap.size]? = some (.cells #[.int .i64 0, .int .i64 0, .string ⟨#[]⟩, .slice none 0 0] 25 (0, 0))
  node : W1.heap[w.heap.size + 2]? = some (.cells #[.int .i64 k, .int .i64 n, .string s, .slice none 0 0] 25 (0, 0))
theorem Three.start {w W1 : World} {k n : Int} {s : ByteArray} (h : Three w k n s W1) : Grow W1 (w.heap.size + 3) (w.heap.size + 2) k n s [] (.slice none 0 0) W1 :=
  ⟨h.node, Own.nil _ _ _ _ _, by omega, by rw [h.size]; omega, Nat.le_refl _, rfl, rfl, rfl, fun _ _ _ => rfl⟩
theorem Three.res_on {w W1 wr : World} {k n : Int} {s : ByteArray} {us : List Tt} {sv : Value} (h : Three w k n s W1) (hg : Grow W1 (w.heap.size + 3) (w.heap.size + 2) k n s us sv wr) : wr.heap[w.heap.size]? = some (.cells #[.int .i64 0, .int .i64 0, .string ⟨#[]⟩, .slice none 0 0] 25 (0, 0)) :=
  (hg.block _ (by omega) (by omega)).trans h.res
theorem Three.made {w W1 wr : World} {k n : Int} {s : ByteArray} {us : List Tt} {A' : Option Addr} {c' : Nat} (h : Three w k n s W1) (hg : Grow W1 (w.heap.size + 3) (w.heap.size + 2) k n s us (.slice A' us.length c') wr) (hn : -9223372036854775808 ≤ n ∧ n ≤ 9223372036854775807) (hl : us.length ≤ 1048576) (hs : s.size ≤ 1048576) (r : Array Value) :
    TyR.rd (wr.setRow w.heap.size r) (New w.heap.size (wr.setRow w.heap.size r)) (.mk k n s us) [.int .i64 k, .int .i64 n, .string s, .slice A' us.length c'] ∧ Below w.heap.size w (wr.setRow w.heap.size r) :=
  boxed_end (B := w.heap.size + 1) (TyR.more (S := New (w.heap.size + 3) wr) (fun b hb => ⟨by have := hb.1; omega, hb.2⟩) (TyR.mk hn hl hs hg.own.rows)) (Nat.lt_succ_self _) (Nat.le_refl _) (hg.below (by omega) h.below)
set_option maxRecDepth 100000 in
set_option maxHeartbeats 4000000 in
theorem reb1_any {w0 : World} {mb B0 B1 : Nat} {f : Int → Option Tt} (hm : TMap w0 mb f) (hB0 : w0.heap[B0]? = some (.cells #[.map (some mb)] 47 (0, 0))) (hB1 : w0.heap[B1]? = some (.cells #[.func (.func 54) #[] #[.pointer (some ⟨B0, 0, none⟩), .pointer (some ⟨B1, 0, none⟩)]] 77 (0, 0))) :
    ∀ (d : Nat) (t : Tt) (b o : Nat) (w : World) (S : Nat → Prop), Below w0.heap.size w0 w → (∀ x, S x → x < w.heap.size) → TyP w S d t b o →
      Calls Tryz.prog 54 #[.pointer (some ⟨b, o, none⟩), .pointer (some ⟨B0, 0, none⟩), .pointer (some ⟨B1, 0, none⟩)] w (Made w w.heap.size (rebT f t)) := by
  intro d
  induction d with
  | zero => intro t b o w S _ _ h; exact h.2.elim fun _ h => h.2.elim
  | succ d ih =>
    intro t b o w S hbw hS hP
    obtain ⟨A, c, d', hd, hN, hn, hl, hs, hSb, hkids⟩ := hP.node
    obtain rfl : d = d' := by omega
    obtain ⟨k, n, s, l⟩ := t
    simp only [Tt.num, Tt.name, Tt.args] at hn hl hs hkids
    have hlow := hS b hSb
    have hbz := hbw.size
    have hk0 := lt_of_cells hB0
    have hk1 := lt_of_cells hB1
    have HC0 : Hid (∀ W, Below w.heap.size w W → W.cell? ⟨B0, 0, none⟩ = some (.map (some mb)) ∧ W.cell? ⟨B1, 0, none⟩ = some (.func (.func 54) #[] #[.pointer (some ⟨B0, 0, none⟩), .pointer (some ⟨B1, 0, none⟩)]) ∧ W.cell? ⟨b, o, none⟩ = some (.int .i64 k) ∧ W.cell? ⟨b, o + 1, none⟩ = some (.int .i64 n) ∧ W.cell? ⟨b, o + 3, none⟩ = some (.slice A l.length c)) := Lib.hid fun W h => by
      have h2 := hbw.trans (h.mono hbz)
      have hN' := hN.keep (Same.of_below h hS) hSb
      exact ⟨by rw [cell_of_row W _ 0 _ _ _ (row_on hB0 h2)]; rfl, by rw [cell_of_row W _ 0 _ _ _ (row_on hB1 h2)]; rfl, hN'.1, hN'.2.1, hN'.2.2.2⟩
    have HROW : Hid (∀ W, Below w.heap.size w W → W.rangeAt b o [.int .i64 k, .int .i64 n, .string s, .slice A l.length c]) := Lib.hid fun W h => by
      obtain ⟨_, cs, hr, hd0⟩ := hP.keep (Same.of_below h hS)
      obtain ⟨A', c', hcs, _⟩ := TyR.open_ ⟨_, hd0⟩
      have hN' := hN.keep (Same.of_below h hS) hSb
      subst hcs
      have h3 : W.cell? ⟨b, o + 3, none⟩ = some (.slice A' l.length c') := hr 3 _ rfl
      rw [hN'.2.2.2] at h3
      simp only [Option.some.injEq, Value.slice.injEq] at h3
      obtain ⟨rfl, h3⟩ := h3
      have h4 : c = c' := h3.2
      subst h4
      exact hr
    have hcf : ∀ (args : Array Value) (w : World), (callFunc 54 args).run Tryz.prog w = .ok (.enter 54 args) w := fun args w => by kernel_rfl
    have HLK := Lib.hid ((hm.on hbw).look hn)
    have HIH := Lib.hid ih
    have HK := Lib.hid hkids
    have HS := Lib.hid hS
    have HBW := Lib.hid hbw
    clear hB0 hB1 hkids hN hP ih hS hm hk0 hk1
    have hways : (k = 1 ∧ ∃ k2 n2 s2 l2 A2 c2, f n = some (.mk k2 n2 s2 l2) ∧ Val w (.mk k2 n2 s2 l2) (.agg #[.int .i64 k2, .int .i64 n2, .string s2, .slice A2 l2.length c2]) ∧ ∀ W, Below w.heap.size w W → (Instr.lookup 47 (.map (some mb)) (.int .i64 n) true).run Tryz.prog W = .ok (.tuple #[.agg #[.int .i64 k2, .int .i64 n2, .string s2, .slice A2 l2.length c2], .bool true]) W) ∨
        ∃ k2 n2 s2 A2 m2 c2 fl, rebT f (.mk k n s l) = .mk k n s (l.map (rebT f)) ∧ (fl = true → (k == 1) = false) ∧ ∀ W, Below w.heap.size w W → (Instr.lookup 47 (.map (some mb)) (.int .i64 n) true).run Tryz.prog W = .ok (.tuple #[.agg #[.int .i64 k2, .int .i64 n2, .string s2, .slice A2 m2 c2], .bool fl]) W := by
      rcases HLK.out with ⟨hf, hL⟩ | ⟨k2, n2, s2, l2, A2, c2, hf, hv, hL⟩
      · refine .inr ⟨0, 0, ⟨#[]⟩, none, 0, 0, false, ?_, fun h => (by cases h), hL⟩
        exact reb_none hf
      · by_cases hk1 : k = 1
        · exact .inl ⟨hk1, k2, n2, s2, l2, A2, c2, hf, hv, hL⟩
        · exact .inr ⟨k2, n2, s2, A2, l2.length, c2, true, reb_con hk1, fun _ => by simpa using hk1, hL⟩
    clear HLK
    rcases hways with ⟨hk1, k2, n2, s2, l2, A2, c2, hf, hv, hL⟩ | ⟨k2, n2, s2, A2, m2, c2, fl, hE, hfl, hL⟩
    · have HL := Lib.hid hL
      have e1 : (k == 1) = true := by simpa using hk1
      have HE : Hid (rebT f (.mk k n s l) = .mk k2 n2 s2 l2) := Lib.hid (by subst hk1; exact reb_var hf)
      have HV := Lib.hid hv
      clear hL hf hv hk1
      rw [HE.out]
      go_enter Tryz.func54, Tryz.ntmps54
      go_wp2
      obtain ⟨wa, hwa⟩ : ∃ wa, wa = w.alloc (.cells #[.int .i64 0, .int .i64 0, .string ⟨#[]⟩, .slice none 0 0] 25) := ⟨_, rfl⟩
      have hba : Below w.heap.size w wa := by rw [hwa]; exact below_new _ _
      have hra : wa.heap[w.heap.size]? = some (.cells #[.int .i64 0, .int .i64 0, .string ⟨#[]⟩, .slice none 0 0] 25 (0, 0)) := by rw [hwa]; exact heap_alloc_new _ _
      have hza : wa.heap.size = w.heap.size + 1 := by rw [hwa]; simp
      rw [← hwa]
      have HA := Lib.hid (And.intro hba (And.intro hra hza))
      clear hwa hba hra
      have HX : Hid (∀ W, Below wa.heap.size wa W → Below w.heap.size w W) := Lib.hid fun W h => below_then HA.out.1 h
      refine wp_region_K (fun w' => Below wa.heap.size wa w') (fun j => j != 10) (by kernel_rfl) ?_
      refine wpK_take (v := ?_) (a' := ?_) 0 rfl (by kernel_rfl) (by kernel_rfl) (by kernel_rfl) (by kernel_rfl) (by kernel_rfl) (fun _ _ _ h => h) (below_drew1 (Below.refl _ _)) ?_ ?_ ?_
      rotate_left 2
      · refine .inl ⟨by kernel_rfl, ?_⟩; intro wS hS; have q0 := (HC0.out _ (HX.out _ hS)).1; have q1 := (HC0.out _ (HX.out _ hS)).2.2.2.1; have q2 := HL.out _ (HX.out _ hS); go_simp; with_reducible rfl
      · go_simp; with_reducible rfl
      refine wpK_take0 (v := ?_) (a' := ?_) 1 rfl (by kernel_rfl) (by kernel_rfl) (by kernel_rfl) (by kernel_rfl) (fun _ _ _ h => h) ?_ ?_ ?_
      rotate_left 2
      · refine .inl ⟨by kernel_rfl, ?_⟩; intro wS hS; clear hS; go_simp; with_reducible rfl
      · go_simp; with_reducible rfl
      refine wpK_take0 (v := ?_) (a' := ?_) 2 rfl (by kernel_rfl) (by kernel_rfl) (by kernel_rfl) (by kernel_rfl) (fun _ _ _ h => h) ?_ ?_ ?_
      rotate_left 2
      · refine .inl ⟨by kernel_rfl, ?_⟩; intro wS hS; clear hS; go_simp; with_reducible rfl
      · go_simp; with_reducible rfl
      refine wpK_take0 (v := ?_) (a' := ?_) 3 rfl (by kernel_rfl) (by kernel_rfl) (by kernel_rfl) (by kernel_rfl) (fun _ _ _ h => h) ?_ ?_ ?_
      rotate_left 2
      · refine .inl ⟨by kernel_rfl, ?_⟩; intro wS hS; clear hS; go_simp; with_reducible rfl
      · go_simp; with_reducible rfl
      refine wpK_take (v := ?_) (a' := ?_) 4 rfl (by kernel_rfl) (by kernel_rfl) (by kernel_rfl) (by kernel_rfl) (by kernel_rfl) (fun _ _ _ h => h) (below_drew1 (Below.refl _ _)) ?_ ?_ ?_
      rotate_left 2
      · refine .inl ⟨by kernel_rfl, ?_⟩; intro wS hS; have q0 := (HC0.out _ (HX.out _ hS)).1; have q1 := (HC0.out _ (HX.out _ hS)).2.2.2.1; have q2 := HL.out _ (HX.out _ hS); go_simp; with_reducible rfl
      · go_simp; with_reducible rfl
      refine wpK_take (v := ?_) (a' := ?_) 5 rfl (by kernel_rfl) (by kernel_rfl) (by kernel_rfl) (by kernel_rfl) (by kernel_rfl) (fun _ _ _ h => h) (below_drew1 (Below.refl _ _)) ?_ ?_ ?_
      rotate_left 2
      · refine .inl ⟨by kernel_rfl, ?_⟩; intro wS hS; have q0 := (HC0.out _ (HX.out _ hS)).1; have q1 := (HC0.out _ (HX.out _ hS)).2.2.2.1; have q2 := HL.out _ (HX.out _ hS); go_simp; with_reducible rfl
      · go_simp; with_reducible rfl
      refine wpK_take0 (v := ?_) (a' := ?_) 6 rfl (by kernel_rfl) (by kernel_rfl) (by kernel_rfl) (by kernel_rfl) (fun _ _ _ h => h) ?_ ?_ ?_
      rotate_left 2
      · refine .inl ⟨by kernel_rfl, ?_⟩; intro wS hS; clear hS; go_simp; with_reducible rfl
      · go_simp; with_reducible rfl
      refine wpK_take0 (v := ?_) (a' := ?_) 7 rfl (by kernel_rfl) (by kernel_rfl) (by kernel_rfl) (by kernel_rfl) (fun _ _ _ h => h) ?_ ?_ ?_
      rotate_left 2
      · refine .inl ⟨by kernel_rfl, ?_⟩; intro wS hS; clear hS; go_simp; with_reducible rfl
      · go_simp; with_reducible rfl
      refine wpK_take0 (v := ?_) (a' := ?_) 8 rfl (by kernel_rfl) (by kernel_rfl) (by kernel_rfl) (by kernel_rfl) (fun _ _ _ h => h) ?_ ?_ ?_
      rotate_left 2
      · refine .inl ⟨by kernel_rfl, ?_⟩; intro wS hS; clear hS; go_simp; with_reducible rfl
      · go_simp; with_reducible rfl
      refine wpK_one 9 rfl (by kernel_rfl) (fun K hK => ?_)
      have HKK := Lib.hid hK
      clear hK
      go_wp2
      refine HKK.out _ _ (fun _ hS => hS.trans ((below_new _ _).mono hS.size)) ?_
      refine wpK_one 10 rfl (by kernel_rfl) (fun K hK => ?_)
      have HKK := Lib.hid hK
      clear hK
      go_wp2
      refine HKK.out _ _ (fun h => absurd h (by decide)) ?_
      refine wpK_take0 (v := ?_) (a' := ?_) 11 rfl (by kernel_rfl) (by kernel_rfl) (by kernel_rfl) (by kernel_rfl) (fun _ _ _ h => h) ?_ ?_ ?_
      rotate_left 2
      · refine .inl ⟨by kernel_rfl, ?_⟩; intro wS hS; clear hS; go_simp; with_reducible rfl
      · go_simp; with_reducible rfl
      refine wpK_end (by kernel_rfl) ?_ _
      clear HKK
      obtain ⟨W2, hW2⟩ : ∃ W2, W2 = (wa.alloc (.cells #[.int .i64 k2, .int .i64 n2, .string s2, .slice A2 l2.length c2] 25)).drew := ⟨_, rfl⟩
      have hb2 : Below w.heap.size w W2 := by rw [hW2]; exact below_then HA.out.1 (below_drew1 (below_new _ _))
      have hr2 : W2.heap[w.heap.size]? = some (.cells #[.int .i64 0, .int .i64 0, .string ⟨#[]⟩, .slice none 0 0] 25 (0, 0)) := by rw [hW2]; exact (Below.heap_alloc _ _ _ (by have := HA.out.2.2; omega)).trans HA.out.2.1
      have hz2 : W2.heap.size = w.heap.size + 2 := by rw [hW2]; show (wa.alloc _).heap.size = _; rw [World.size_alloc, HA.out.2.2]
      have ho2 : W2.heap[w.heap.size + 1]? = some (.cells #[.int .i64 k2, .int .i64 n2, .string s2, .slice A2 l2.length c2] 25 (0, 0)) := by rw [hW2]; have := heap_alloc_new wa (.cells #[.int .i64 k2, .int .i64 n2, .string s2, .slice A2 l2.length c2] 25); rw [HA.out.2.2] at this; exact this
      rw [← hW2]
      have H2 := Lib.hid (And.intro hb2 (And.intro hr2 (And.intro hz2 ho2)))
      clear hW2 hb2 hr2 ho2
      have q0 := (HC0.out W2 H2.out.1).2.2.1
      obtain ⟨_, _, hvv, d2, hd2⟩ := HV.out.on H2.out.1
      simp only [Value.agg.injEq, Array.mk.injEq, List.cons.injEq, Value.slice.injEq, and_true, true_and, Tt.kind, Tt.num, Tt.name, Tt.args] at hvv
      obtain ⟨rfl, rfl⟩ := hvv
      have HP := Lib.hid (put_any d2 k2 n2 s2 l2 _ _ [] none 0 W2 _ (fun _ h => h) hd2 Rows.nil (by simp))
      rw [put_nil] at HP
      clear hd2
      go_wp2_with (refine wpList_load_row rfl 25 _ rfl (w.heap.size + 1) rfl 25 _ (0, 0) _ H2.out.2.2.2 Tryz.underlying25 rfl (tySizeA _ _ _ _) ?_)
      refine HP.out.mono ?_
      rintro e w3 ⟨A6, c6, rfl, h6, h7⟩
      have HM := Lib.hid h6
      have HB3 := Lib.hid (below_then H2.out.1 h7)
      have HZ3 := Lib.hid (row_on H2.out.2.1 h7)
      have hz3 := h7.size
      clear h6 h7
      go_wp2_with (refine wpList_store_row rfl 25 _ _ rfl w.heap.size _ rfl rfl 25 #[.int .i64 0, .int .i64 0, .string ⟨#[]⟩, .slice none 0 0] HZ3.out (tySizeA _ _ _ _) rfl (one4 _ _ _ _ _ _) ?_)
      refine bodyPost_ret (v := .agg #[.int .i64 k2, .int .i64 n2, .string s2, .slice A6 l2.length c6]) (results_cell_row rfl _ _ w.heap.size 25 _ (0, 0) _ rfl (setRow_row HZ3.out) Tryz.underlying25 rfl (tySizeA _ _ _ _)) rfl ?_
      obtain ⟨f1, f2⟩ := boxed_end (w := w) (b := w.heap.size) (r := #[.int .i64 k2, .int .i64 n2, .string s2, .slice A6 l2.length c6]) HM.out (by rw [hz2]; omega) (Nat.le_refl _) HB3.out
      exact ⟨A6, c6, rfl, f1, f2⟩
    · have HL := Lib.hid hL
      have HE := Lib.hid hE
      clear hL hE
      have hguard : fl = false ∨ (fl = true ∧ (k == 1) = false) := by
        cases fl
        · exact .inl rfl
        · exact .inr ⟨rfl, hfl rfl⟩
      clear hfl
      rcases hguard with rfl | ⟨rfl, e1⟩
      all_goals
        go_enter Tryz.func54, Tryz.ntmps54
        go_wp2
        obtain ⟨wa, hwa⟩ : ∃ wa, wa = w.alloc (.cells #[.int .i64 0, .int .i64 0, .string ⟨#[]⟩, .slice none 0 0] 25) := ⟨_, rfl⟩
        have hba : Below w.heap.size w wa := by rw [hwa]; exact below_new _ _
        have hra : wa.heap[w.heap.size]? = some (.cells #[.int .i64 0, .int .i64 0, .string ⟨#[]⟩, .slice none 0 0] 25 (0, 0)) := by rw [hwa]; exact heap_alloc_new _ _
        have hza : wa.heap.size = w.heap.size + 1 := by rw [hwa]; simp
        rw [← hwa]
        have HA := Lib.hid (And.intro hba (And.intro hra hza))
        clear hwa hba hra
        have HX : Hid (∀ W, Below wa.heap.size wa W → Below w.heap.size w W) := Lib.hid fun W h => below_then HA.out.1 h
        refine wp_region_K (fun w' => Below wa.heap.size wa w') (fun j => j != 10) (by kernel_rfl) ?_
        refine wpK_take (v := ?_) (a' := ?_) 0 rfl (by kernel_rfl) (by kernel_rfl) (by kernel_rfl) (by kernel_rfl) (by kernel_rfl) (fun _ _ _ h => h) (below_drew1 (Below.refl _ _)) ?_ ?_ ?_
        rotate_left 2
        · refine .inl ⟨by kernel_rfl, ?_⟩; intro wS hS; have q0 := (HC0.out _ (HX.out _ hS)).1; have q1 := (HC0.out _ (HX.out _ hS)).2.2.2.1; have q2 := HL.out _ (HX.out _ hS); go_simp; with_reducible rfl
        · go_simp; with_reducible rfl
        refine wpK_take0 (v := ?_) (a' := ?_) 1 rfl (by kernel_rfl) (by kernel_rfl) (by kernel_rfl) (by kernel_rfl) (fun _ _ _ h => h) ?_ ?_ ?_
        rotate_left 2
        · refine .inl ⟨by kernel_rfl, ?_⟩; intro wS hS; clear hS; go_simp; with_reducible rfl
        · go_simp; with_reducible rfl
        refine wpK_take0 (v := ?_) (a' := ?_) 2 rfl (by kernel_rfl) (by kernel_rfl) (by kernel_rfl) (by kernel_rfl) (fun _ _ _ h => h) ?_ ?_ ?_
        rotate_left 2
        · refine .inl ⟨by kernel_rfl, ?_⟩; intro wS hS; clear hS; go_simp; with_reducible rfl
        · go_simp; with_reducible rfl
        refine wpK_take0 (v := ?_) (a' := ?_) 3 rfl (by kernel_rfl) (by kernel_rfl) (by kernel_rfl) (by kernel_rfl) (fun _ _ _ h => h) ?_ ?_ ?_
        rotate_left 2
        · refine .inl ⟨by kernel_rfl, ?_⟩; intro wS hS; clear hS; go_simp; with_reducible rfl
        · go_simp; with_reducible rfl
        refine wpK_take (v := ?_) (a' := ?_) 4 rfl (by kernel_rfl) (by kernel_rfl) (by kernel_rfl) (by kernel_rfl) (by kernel_rfl) (fun _ _ _ h => h) (below_drew1 (Below.refl _ _)) ?_ ?_ ?_
        rotate_left 2
        · refine .inl ⟨by kernel_rfl, ?_⟩; intro wS hS; have q0 := (HC0.out _ (HX.out _ hS)).1; have q1 := (HC0.out _ (HX.out _ hS)).2.2.2.1; have q2 := HL.out _ (HX.out _ hS); go_simp; with_reducible rfl
        · go_simp; with_reducible rfl
        refine wpK_take (v := ?_) (a' := ?_) 5 rfl (by kernel_rfl) (by kernel_rfl) (by kernel_rfl) (by kernel_rfl) (by kernel_rfl) (fun _ _ _ h => h) (below_drew1 (Below.refl _ _)) ?_ ?_ ?_
        rotate_left 2
        · refine .inl ⟨by kernel_rfl, ?_⟩; intro wS hS; have q0 := (HC0.out _ (HX.out _ hS)).1; have q1 := (HC0.out _ (HX.out _ hS)).2.2.2.1; have q2 := HL.out _ (HX.out _ hS); go_simp; with_reducible rfl
        · go_simp; with_reducible rfl
        refine wpK_take0 (v := ?_) (a' := ?_) 6 rfl (by kernel_rfl) (by kernel_rfl) (by kernel_rfl) (by kernel_rfl) (fun _ _ _ h => h) ?_ ?_ ?_
        rotate_left 2
        · refine .inl ⟨by kernel_rfl, ?_⟩; intro wS hS; clear hS; go_simp; with_reducible rfl
        · go_simp; with_reducible rfl
        refine wpK_take0 (v := ?_) (a' := ?_) 7 rfl (by kernel_rfl) (by kernel_rfl) (by kernel_rfl) (by kernel_rfl) (fun _ _ _ h => h) ?_ ?_ ?_
        rotate_left 2
        · refine .inl ⟨by kernel_rfl, ?_⟩; intro wS hS; clear hS; go_simp; with_reducible rfl
        · go_simp; with_reducible rfl
        refine wpK_take0 (v := ?_) (a' := ?_) 8 rfl (by kernel_rfl) (by kernel_rfl) (by kernel_rfl) (by kernel_rfl) (fun _ _ _ h => h) ?_ ?_ ?_
        rotate_left 2
        · refine .inl ⟨by kernel_rfl, ?_⟩; intro wS hS; clear hS; go_simp; with_reducible rfl
        · go_simp; with_reducible rfl
        refine wpK_one 9 rfl (by kernel_rfl) (fun K hK => ?_)
        have HKK := Lib.hid hK
        clear hK
        go_wp2
        refine HKK.out _ _ (fun _ hS => hS.trans ((below_new _ _).mono hS.size)) ?_
        refine wpK_one 10 rfl (by kernel_rfl) (fun K hK => ?_)
        have HKK := Lib.hid hK
        clear hK
        go_wp2
        refine HKK.out _ _ (fun h => absurd h (by decide)) ?_
        refine wpK_take0 (v := ?_) (a' := ?_) 11 rfl (by kernel_rfl) (by kernel_rfl) (by kernel_rfl) (by kernel_rfl) (fun _ _ _ h => h) ?_ ?_ ?_
        rotate_left 2
        · refine .inl ⟨by kernel_rfl, ?_⟩; intro wS hS; clear hS; go_simp; with_reducible rfl
        · go_simp; with_reducible rfl
        refine wpK_end (by kernel_rfl) ?_ _
        clear HKK
        obtain ⟨W2, hW2⟩ : ∃ W2, W2 = (wa.alloc (.cells #[.int .i64 k2, .int .i64 n2, .string s2, .slice A2 m2 c2] 25)).drew := ⟨_, rfl⟩
        have hb2 : Below w.heap.size w W2 := by rw [hW2]; exact below_then HA.out.1 (below_drew1 (below_new _ _))
        have hr2 : W2.heap[w.heap.size]? = some (.cells #[.int .i64 0, .int .i64 0, .string ⟨#[]⟩, .slice none 0 0] 25 (0, 0)) := by rw [hW2]; exact (Below.heap_alloc _ _ _ (by have := HA.out.2.2; omega)).trans HA.out.2.1
        have hz2 : W2.heap.size = w.heap.size + 2 := by rw [hW2]; show (wa.alloc _).heap.size = _; rw [World.size_alloc, HA.out.2.2]
        have ho2 : W2.heap[w.heap.size + 1]? = some (.cells #[.int .i64 k2, .int .i64 n2, .string s2, .slice A2 m2 c2] 25 (0, 0)) := by rw [hW2]; have := heap_alloc_new wa (.cells #[.int .i64 k2, .int .i64 n2, .string s2, .slice A2 m2 c2] 25); rw [HA.out.2.2] at this; exact this
        rw [← hW2]
        have H2 := Lib.hid (And.intro hb2 (And.intro hr2 (And.intro hz2 ho2)))
        clear hW2 hb2 hr2 ho2
        have q0 := (HC0.out W2 H2.out.1).2.2.1
        have q3 := (HC0.out W2 H2.out.1).2.2.2.2
        have hb3 : b < w.heap.size + 2 := by omega
        go_wp2_with (refine wpList_load_mid rfl 25 _ rfl b o rfl _ _ (HROW.out _ H2.out.1) Tryz.underlying25 rfl (tySize _ _ _ _) ?_)
        obtain ⟨W3, hW3⟩ : ∃ W3, W3 = W2.alloc (.cells #[.int .i64 k, .int .i64 n, .string s, .slice none 0 0] 25) := ⟨_, rfl⟩
        have hT3 : Three w k n s W3 := by
          refine ⟨by rw [hW3]; exact H2.out.1.alloc (by omega) _, by rw [hW3, World.size_alloc, H2.out.2.2.1], by rw [hW3]; exact (Below.heap_alloc _ _ _ (by omega)).trans H2.out.2.1, ?_⟩
          rw [hW3]; have := heap_alloc_new W2 (.cells #[.int .i64 k, .int .i64 n, .string s, .slice none 0 0] 25); rw [H2.out.2.2.1] at this; exact this
        rw [← hW3]
        have HT3 := Lib.hid hT3
        clear hW3 hT3
        go_loopw [37] (fun z wr => ∃ (j : Nat) (sv : Value), j ≤ l.length ∧ z = .int .i64 j ∧ Grow W3 (w.heap.size + 3) (w.heap.size + 2) k n s ((l.take j).map (rebT f)) sv wr) (fun z _ => l.length - (intOf z).toNat)
        case atStart => exact ⟨0, .slice none 0 0, Nat.zero_le _, rfl, HT3.out.start⟩
        case round =>
          obtain ⟨j, sv, hj, rfl, hat⟩ := hrel
          have HAT := Lib.hid hat
          have hz := hat.size
          clear hat
          by_cases hlt : j < l.length
          · obtain ⟨b', o', rfl, hP'⟩ := HK.out j hlt
            have HT : Hid ((l.take (j + 1)).map (rebT f) = (l.take j).map (rebT f) ++ [rebT f l[j]]) := Lib.hid (take_map _ _ _ hlt)
            have hwr : Below w.heap.size w wr := HAT.out.below (by omega) HT3.out.below
            have HC : Hid (∀ W', Below wr.heap.size wr W' → W'.cell? ⟨w.heap.size + 2, 3, none⟩ = some sv) := Lib.hid fun W' hW => HAT.out.cell hW
            have HC2 : Hid (∀ W', Below wr.heap.size wr W' → W'.cell? ⟨b, o + 3, none⟩ = some (.slice (some ⟨b', o', none⟩) l.length c) ∧ W'.cell? ⟨B1, 0, none⟩ = some (.func (.func 54) #[] #[.pointer (some ⟨B0, 0, none⟩), .pointer (some ⟨B1, 0, none⟩)])) := Lib.hid fun W' hW => by
              have := HC0.out W' (hwr.trans (hW.mono (by omega)))
              exact ⟨this.2.2.2.2, this.2.1⟩
            have HD : Hid (∀ W', Below wr.heap.size wr W' → Calls Tryz.prog 54 #[.pointer (some ⟨b', o' + j * 4, none⟩), .pointer (some ⟨B0, 0, none⟩), .pointer (some ⟨B1, 0, none⟩)] W' (Made W' W'.heap.size (rebT f l[j]))) := Lib.hid fun W' hW => by
              have h1 : Below w.heap.size w W' := hwr.trans (hW.mono (by omega))
              have h2 := h1.size
              exact HIH.out l[j] b' (o' + j * 4) W' S (HBW.out.trans (h1.mono hbz)) (fun x hx => by have := HS.out x hx; omega) (hP'.keep (Same.of_below h1 HS.out))
            have HU : Hid (((l.take j).map (rebT f)).length = j) := Lib.hid (by rw [List.length_map, List.length_take]; omega)
            clear hP' hwr
            generalize l[j] = x at *
            go_wp2
            refine wp_region_K (fun w' => Below wr.heap.size wr w') (fun j => j != 11 && j != 13) (by kernel_rfl) ?_
            refine wpK_take0 (v := ?_) (a' := ?_) 0 rfl (by kernel_rfl) (by kernel_rfl) (by kernel_rfl) (by kernel_rfl) (fun _ _ _ h => h) ?_ ?_ ?_
            rotate_left 2
            · refine .inl ⟨by kernel_rfl, ?_⟩; intro wS hS; clear hS; go_simp; with_reducible rfl
            · go_simp; with_reducible rfl
            refine wpK_take (v := ?_) (a' := ?_) 1 rfl (by kernel_rfl) (by kernel_rfl) (by kernel_rfl) (by kernel_rfl) (by kernel_rfl) (fun _ _ _ h => h) (below_drew1 (Below.refl _ _)) ?_ ?_ ?_
            rotate_left 2
            · refine .inl ⟨by kernel_rfl, ?_⟩; intro wS hS; have q1 := HC.out _ hS; have q2 := (HC2.out _ hS).1; have q3 := (HC2.out _ hS).2; go_simp; with_reducible rfl
            · go_simp; with_reducible rfl
            refine wpK_take (v := ?_) (a' := ?_) 2 rfl (by kernel_rfl) (by kernel_rfl) (by kernel_rfl) (by kernel_rfl) (by kernel_rfl) (fun _ _ _ h => h) (below_drew1 (Below.refl _ _)) ?_ ?_ ?_
            rotate_left 2
            · refine .inl ⟨by kernel_rfl, ?_⟩; intro wS hS; have q1 := HC.out _ hS; have q2 := (HC2.out _ hS).1; have q3 := (HC2.out _ hS).2; go_simp; with_reducible rfl
            · go_simp; with_reducible rfl
            refine wpK_take0 (v := ?_) (a' := ?_) 3 rfl (by kernel_rfl) (by kernel_rfl) (by kernel_rfl) (by kernel_rfl) (fun _ _ _ h => h) ?_ ?_ ?_
            rotate_left 2
            · refine .inl ⟨by kernel_rfl, ?_⟩; intro wS hS; clear hS; go_simp; with_reducible rfl
            · go_simp; with_reducible rfl
            refine wpK_take0 (v := ?_) (a' := ?_) 4 rfl (by kernel_rfl) (by kernel_rfl) (by kernel_rfl) (by kernel_rfl) (fun _ _ _ h => h) ?_ ?_ ?_
            rotate_left 2
            · refine .inl ⟨by kernel_rfl, ?_⟩; intro wS hS; clear hS; go_simp; with_reducible rfl
            · go_simp; with_reducible rfl
            refine wpK_take0 (v := ?_) (a' := ?_) 5 rfl (by kernel_rfl) (by kernel_rfl) (by kernel_rfl) (by kernel_rfl) (fun _ _ _ h => h) ?_ ?_ ?_
            rotate_left 2
            · refine .inl ⟨by kernel_rfl, ?_⟩; intro wS hS; clear hS; go_simp; with_reducible rfl
            · go_simp; with_reducible rfl
            refine wpK_take (v := ?_) (a' := ?_) 6 rfl (by kernel_rfl) (by kernel_rfl) (by kernel_rfl) (by kernel_rfl) (by kernel_rfl) (fun _ _ _ h => h) (below_drew1 (Below.refl _ _)) ?_ ?_ ?_
            rotate_left 2
            · refine .inl ⟨by kernel_rfl, ?_⟩; intro wS hS; have q1 := HC.out _ hS; have q2 := (HC2.out _ hS).1; have q3 := (HC2.out _ hS).2; go_simp; with_reducible rfl
            · go_simp; with_reducible rfl
            refine wpK_take0 (v := ?_) (a' := ?_) 7 rfl (by kernel_rfl) (by kernel_rfl) (by kernel_rfl) (by kernel_rfl) (fun _ _ _ h => h) ?_ ?_ ?_
            rotate_left 2
            · refine .inl ⟨by kernel_rfl, ?_⟩; intro wS hS; clear hS; go_simp; with_reducible rfl
            · go_simp; with_reducible rfl
            refine wpK_take0 (v := ?_) (a' := ?_) 8 rfl (by kernel_rfl) (by kernel_rfl) (by kernel_rfl) (by kernel_rfl) (fun _ _ _ h => h) ?_ ?_ ?_
            rotate_left 2
            · refine .inl ⟨by kernel_rfl, ?_⟩; intro wS hS; clear hS; go_simp; with_reducible rfl
            · go_simp; with_reducible rfl
            refine wpK_one 9 rfl (by kernel_rfl) (fun K hK => ?_)
            have HKK := Lib.hid hK
            clear hK
            go_wp2_with fail
            refine (HD.out _ (below_drew1 (Below.refl _ _))).mono ?_
            rintro e w1 ⟨A3, c3, rfl, h3, hb1⟩
            have HM := Lib.hid (And.intro h3 hb1)
            have hz1 : wr.heap.size ≤ w1.heap.size := hb1.size
            clear h3 hb1
            go_wp2
            refine HKK.out _ _ (fun _ hS => hS.trans (HM.out.2.mono (by simp))) ?_
            refine wpK_one 10 rfl (by kernel_rfl) (fun K hK => ?_)
            have HKK := Lib.hid hK
            clear hK
            go_wp2
            refine HKK.out _ _ (fun _ hS => hS.trans ((below_new _ _).mono hS.size)) ?_
            refine wpK_one 11 rfl (by kernel_rfl) (fun K hK => ?_)
            have HKK := Lib.hid hK
            clear hK
            have hbw : Below wr.heap.size wr (w1.alloc (.cells #[.int .i64 ((rebT f x)).kind, .int .i64 ((rebT f x)).num, .string ((rebT f x)).name, .slice A3 ((rebT f x)).args.length c3] 25)) :=
              (below_drew1 (Below.refl wr.heap.size wr)).trans ((HM.out.2.mono (by simp)).trans ((below_new _ _).mono hz1))
            obtain ⟨rows, hrows⟩ := HAT.out.own.below hbw
            have HRO := Lib.hid hrows
            have HBW := Lib.hid hbw
            obtain ⟨i0, hi, hi0, hi1, hi2⟩ := info_parts tyInfo
            have HI := Lib.hid (And.intro hi (And.intro hi0 (And.intro hi1 hi2)))
            clear hi hi0 hi1 hi2 hrows hbw
            have hus := HU.out
            refine wpList_append_own_at _ rfl (.tmp 41) (.tmp 50) 23 rfl (w.heap.size + 3) 25 i0 (.agg #[.int .i64 0, .int .i64 0, .string ⟨#[]⟩, .slice none 0 0]) 4 56 Tryz.underlying23 HI.out.1 HI.out.2.1 HI.out.2.2.1 HI.out.2.2.2 rfl (by decide)
              sv ((l.take j).map (rebT f)).length rows.flatten rfl HRO.out.2.2.1 ⟨w1.heap.size, 0, none⟩ 1 1 [.int .i64 ((rebT f x)).kind, .int .i64 ((rebT f x)).num, .string ((rebT f x)).name, .slice A3 ((rebT f x)).args.length c3] rfl rfl ?c1 ?c2 ?c3 ?c4 ?c5 ?_
            case c1 => exact new_cells _ _ _
            case c2 => simp [Value.oneCell']
            case c3 => rw [hus]; unfold maxLen; omega
            case c4 => rw [hus]; omega
            case c5 => simp; omega
            intro v' w2 hown2 hgrow _ hv'
            obtain ⟨A4, n4, c4, rfl⟩ := own_slice hown2
            have HO := Lib.hid (And.intro hown2 (And.intro hgrow hv'))
            clear hown2 hgrow hv' hus
            refine wpList_nil ?_
            refine HKK.out _ _ (fun h => absurd h (by decide)) ?_
            refine wpK_one 12 rfl (by kernel_rfl) (fun K hK => ?_)
            have HKK := Lib.hid hK
            clear hK
            go_wp2
            refine HKK.out _ _ (fun _ hS => hS) ?_
            refine wpK_one 13 rfl (by kernel_rfl) (fun K hK => ?_)
            have HKK := Lib.hid hK
            clear hK
            obtain ⟨e1, e2⟩ := grow_cell HAT.out HBW.out HRO.out HO.out.2.1
            go_wp2
            refine HKK.out _ _ (fun h => absurd h (by decide)) ?_
            refine wpK_end (by kernel_rfl) ?_ _
            have HN := Lib.hid (grow_next HAT.out HBW.out HRO.out HO.out.1 HO.out.2.1 HO.out.2.2 HM.out.1 HM.out.2)
            clear HKK HO HRO HI HBW HD HC HC2 HM e1 e2
            go_wp2
            go_roundw
            case rel => exact ⟨j + 1, _, by omega, by go_num, by rw [HT.out]; exact HN.out⟩
            case measure => simp [intOf]; omega
          · obtain rfl : j = l.length := by omega
            rw [List.take_length] at HAT
            obtain ⟨A5, c5, hsv, _, _⟩ := HAT.out.own.form
            rw [List.length_map] at hsv
            subst hsv
            have q9 := (HC0.out wr (HAT.out.below (by omega) HT3.out.below)).2.2.2.2
            have HRS := Lib.hid (HT3.out.res_on HAT.out)
            go_wp2_with (first | (refine wpList_load_row rfl 25 _ rfl (w.heap.size + 2) rfl 25 #[.int .i64 k, .int .i64 n, .string s, .slice A5 l.length c5] (0, 0) _ HAT.out.box Tryz.underlying25 rfl (tySizeA _ _ _ _) ?_) | (refine wpList_store_row rfl 25 _ _ rfl w.heap.size _ rfl rfl 25 #[.int .i64 0, .int .i64 0, .string ⟨#[]⟩, .slice none 0 0] HRS.out (tySizeA _ _ _ _) rfl (one4 _ _ _ _ _ _) ?_))
            refine bodyPost_ret (v := .agg #[.int .i64 k, .int .i64 n, .string s, .slice A5 l.length c5]) (results_cell_row rfl _ _ w.heap.size 25 _ (0, 0) _ rfl (setRow_row HRS.out) Tryz.underlying25 rfl (tySizeA _ _ _ _)) rfl ?_
            rw [HE.out]
            have hat := HAT.out
            have hlm : (l.map (rebT f)).length = l.length := List.length_map _
            obtain ⟨f1, f2⟩ := HT3.out.made (us := l.map (rebT f)) (A' := A5) (c' := c5) (by rw [hlm]; exact hat) hn (by rw [hlm]; exact hl) hs #[.int .i64 k, .int .i64 n, .string s, .slice A5 l.length c5]
            rw [hlm] at f1
            refine ⟨A5, c5, by simp only [Tt.kind, Tt.num, Tt.name, Tt.args, hlm], ?_, f2⟩
            simp only [Tt.kind, Tt.num, Tt.name, Tt.args, hlm]
            exact f1
set_option maxHeartbeats 1000000 in
theorem reb_any {f : Int → Option Tt} {mb : Nat} (d : Nat) (t : Tt) (b o : Nat) (w : World) (S : Nat → Prop) (hm : TMap w mb f) (hS : ∀ x, S x → x < w.heap.size) (hP : TyP w S d t b o) :
    Calls Tryz.prog 32 #[.pointer (some ⟨b, o, none⟩), .map (some mb)] w (Made w w.heap.size (rebT f t)) := by
  have HC : Hid (∃ w3, w3 = (((w.alloc (.cells #[.map (some mb)] 47)).alloc (.cells #[.int .i64 0, .int .i64 0, .string ⟨#[]⟩, .slice none 0 0] 25)).alloc (.cells #[.func (.func 54) #[] #[.pointer (some ⟨w.heap.size, 0, none⟩), .pointer (some ⟨w.heap.size + 2, 0, none⟩)]] 77)) ∧ Below w.heap.size w w3 ∧ w3.heap.size = w.heap.size + 3 ∧ w3.heap[w.heap.size + 1]? = some (.cells #[.int .i64 0, .int .i64 0, .string ⟨#[]⟩, .slice none 0 0] 25 (0, 0)) ∧
      Calls Tryz.prog 54 #[.pointer (some ⟨b, o, none⟩), .pointer (some ⟨w.heap.size, 0, none⟩), .pointer (some ⟨w.heap.size + 2, 0, none⟩)] w3 (Made w3 w3.heap.size (rebT f t))) := Lib.hid (by
    refine ⟨_, rfl, ((below_new w _).alloc (by simp) _).alloc (by simp; omega) _, by simp, heap_alloc3_mid _ _ _ _, ?_⟩
    have hb : Below w.heap.size w (((w.alloc (.cells #[.map (some mb)] 47)).alloc (.cells #[.int .i64 0, .int .i64 0, .string ⟨#[]⟩, .slice none 0 0] 25)).alloc (.cells #[.func (.func 54) #[] #[.pointer (some ⟨w.heap.size, 0, none⟩), .pointer (some ⟨w.heap.size + 2, 0, none⟩)]] 77)) := ((below_new w _).alloc (by simp) _).alloc (by simp; omega) _
    exact reb1_any (hm.on hb) (heap_alloc3_old _ _ _ _) (heap_alloc3_new _ _ _ _) d t b o _ S (Below.refl _ _) (fun x hx => by have := hS x hx; simp; omega) (hP.keep (Same.of_below hb hS)))
  obtain ⟨w3, hw3, hb3, hz3, hr3, hc3⟩ := HC.out
  have HW := Lib.hid hw3
  have H3 := Lib.hid (And.intro hb3 (And.intro hz3 (And.intro hr3 hc3)))
  have hcf : ∀ (args : Array Value) (w : World), (callFunc 54 args).run Tryz.prog w = .ok (.enter 54 args) w := fun args w => by kernel_rfl
  clear HC hw3 hb3 hz3 hr3 hc3 hm hS hP
  generalize rebT f t = T at *
  go_enter Tryz.func32, Tryz.ntmps32
  go_wp2_with fail
  rw [← HW.out]
  refine H3.out.2.2.2.mono ?_
  rintro e w1 ⟨A6, c6, rfl, h6, h7⟩
  have HN := Lib.hid (And.intro h6 h7)
  clear h6 h7
  have HRS : Hid (w1.heap[w.heap.size + 1]? = some (.cells #[.int .i64 0, .int .i64 0, .string ⟨#[]⟩, .slice none 0 0] 25 (0, 0))) := Lib.hid (row_on H3.out.2.2.1 HN.out.2)
  go_wp2_with (refine wpList_store_row rfl 25 _ _ rfl (w.heap.size + 1) _ rfl rfl 25 #[.int .i64 0, .int .i64 0, .string ⟨#[]⟩, .slice none 0 0] HRS.out (tySizeA _ _ _ _) rfl (one4 _ _ _ _ _ _) ?_)
  refine bodyPost_ret (v := .agg #[.int .i64 T.kind, .int .i64 T.num, .string T.name, .slice A6 T.args.length c6]) (results_cell_row rfl _ _ (w.heap.size + 1) 25 _ (0, 0) _ rfl (setRow_row HRS.out) Tryz.underlying25 rfl (tySizeA _ _ _ _)) rfl ?_
  obtain ⟨f1, f2⟩ := boxed_end (w := w) (b := w.heap.size + 1) (r := #[.int .i64 T.kind, .int .i64 T.num, .string T.name, .slice A6 T.args.length c6]) HN.out.1 (by rw [H3.out.2.1]; omega) (by omega) (below_then H3.out.1 HN.out.2)
  exact ⟨A6, c6, rfl, f1, f2⟩
end Go.Proofs.YtoopopjcojphaaaGreatDoor
/-
  CONTRACTS OF scheme, II: slices.Contains, slices.Grow, slices.Concat of numbers.
-/
namespace Go.Proofs.YtoopopjcojphaaaGreatDoor
open Go.ChangeShapes Go.WideShapes Go.ChangeAt Go.RowKit
set_option linter.unusedVariables false
theorem index_any (l : List Int) (x : Int) (A : Option Addr) (c : Nat) (hl : l.length ≤ 1048576) (w : World) (B : Nat) (h : IntsAt w B A l) :
    Calls Tryz.prog 52 #[.slice A l.length c, .int .i64 x] w fun e w' => (∃ r : Int, e = .returned (.int .i64 r) ∧ (0 ≤ r ↔ x ∈ l) ∧ -1 ≤ r ∧ r ≤ 1048576) ∧ w = w' := by
  have HA := Lib.hid h
  clear h
  go_enter Tryz.func52, Tryz.ntmps52
  go_wp2
  go_loop [8] (fun z => ∃ k : Nat, k ≤ l.length ∧ z = .int .i64 k ∧ ∀ i (h : i < l.length), i < k → l[i] ≠ x) (fun z => l.length - (intOf z).toNat)
  case atStart => exact ⟨0, Nat.zero_le _, rfl, fun i _ h => absurd h (Nat.not_lt_zero _)⟩
  case round =>
    obtain ⟨k, hk, rfl, hno⟩ := hrel
    have HN := Lib.hid hno
    clear hno
    by_cases hlt : k < l.length
    · obtain ⟨ad, rfl, _, hc⟩ := HA.out.at_ hlt
      by_cases he : l[k] = x
      · have q : (x == l[k]) = true := by simpa using he.symm
        have HE := Lib.hid he
        clear he
        go_wp2
        go_ret
        exact ⟨⟨k, rfl, ⟨fun _ => by rw [← HE.out]; exact List.getElem_mem _, fun _ => by omega⟩, by omega, by omega⟩, rfl⟩
      · have q : (x == l[k]) = false := by simpa using fun e => he e.symm
        have HE := Lib.hid he
        clear he
        go_wp2
        go_round
        case rel => exact ⟨k + 1, by omega, by go_num, fun i hi hik => by
          by_cases e : i = k
          · subst e; exact HE.out
          · exact HN.out i hi (by omega)⟩
        case measure => simp [intOf]; omega
    · obtain rfl : k = l.length := by omega
      go_wp2
      go_ret
      refine ⟨⟨-1, rfl, ⟨fun h => by omega, fun hm => ?_⟩, by omega, by omega⟩, rfl⟩
      obtain ⟨i, hi, he⟩ := List.getElem_of_mem hm
      exact absurd he (HN.out i hi hi)
theorem contains_any (l : List Int) (x : Int) (A : Option Addr) (c : Nat) (hl : l.length ≤ 1048576) (w : World) (B : Nat) (h : IntsAt w B A l) :
    Calls Tryz.prog 30 #[.slice A l.length c, .int .i64 x] w fun e w' => e = .returned (.bool (decide (x ∈ l))) ∧ w = w' := by
  have HC := Lib.hid (index_any l x A c hl w B h)
  clear h
  go_enter Tryz.func30, Tryz.ntmps30
  go_wp2_with fail
  refine HC.out.mono ?_
  rintro e w' ⟨⟨r, rfl, hr, h1, h2⟩, rfl⟩
  have HR := Lib.hid hr
  clear hr
  go_wp2
  go_ret
  refine ⟨ret_bool ?_, rfl⟩
  by_cases hm : x ∈ l
  · rw [decide_eq_true hm]; exact decide_eq_true (HR.out.2 hm)
  · rw [decide_eq_false hm]; exact decide_eq_false fun h => hm (HR.out.1 h)
/-- Room for n numbers. -/
theorem grow_any (n : Nat) (hn : n ≤ 1048576) (w : World) :
    Calls Tryz.prog 53 #[.slice none 0 0, .int .i64 n] w fun e w' => (∃ v, e = .returned v ∧ w'.ownsRow w.heap.size 3 1 v 0 []) ∧ Below w.heap.size w w' := by
  by_cases h0 : n = 0
  · subst h0
    go_enter Tryz.func53, Tryz.ntmps53
    go_wp2
    go_ret
    exact ⟨⟨_, rfl, World.ownsRow_nil _ _ _ _⟩, Below.refl _ _⟩
  · have h1 : 0 < n := by omega
    go_enter Tryz.func53, Tryz.ntmps53
    obtain ⟨i0, hi, hi0, hi1, hi2⟩ := info_parts intInfo
    have HI0 := Lib.hid (And.intro hi (And.intro hi0 (And.intro hi1 hi2)))
    clear hi hi0 hi1 hi2
    have HRUN := Lib.hid (fun W => Lib.run_append_nil_zeros (P := Tryz.prog) W 26 3 26 3 i0 (.int .i64 0) .i64 .i64 Tryz.underlying26 Tryz.underlying3 HI0.out.1 HI0.out.2.1 n h1 (by rw [HI0.out.2.2.1]; decide) (by omega) (by rw [HI0.out.2.2.2]; omega))
    go_wp2_with (at_builtin; refine Lib.wpList_append_run _ rfl _ _ _ _ rfl _ _ rfl rfl _ _ (HRUN.out _) ?_)
    go_ret
    have h2 := grownCap_ge w n 0 3
    have h3 := grownCap_le_maxLen w n 0 3 (by unfold maxLen; omega)
    refine ⟨⟨_, rfl, rfl, .inr ⟨w.heap.size, _, _, rfl, Nat.le_refl _, heap_alloc_new w.drew _, Nat.zero_le _, h3, ?_, by simp⟩⟩, below_drew1 (Below.refl _ _) |>.alloc (Nat.le_refl _) _⟩
    rw [Array.size_append, size_zeroCells, size_zeroCells]
    show n * 1 + _ * 1 = _
    omega
theorem inone {w : World} {base n c : Nat} {e : TypeId} {A : Option Addr} {xs : List Value} (h : w.ownsRow base e 1 (.slice A n c) n xs) (hA : A = none) : c = 0 := by
  subst hA
  rcases h.2 with ⟨hv, _⟩ | ⟨g, cap, cur, hv, _⟩
  · injection hv
  · injection hv with h; cases h
set_option maxRecDepth 100000 in
set_option maxHeartbeats 4000000 in
theorem concat_any (l1 l2 : List Int) (A1 A2 : Option Addr) (c1 c2 gb : Nat) (w : World) (hb : w.heap[gb]? = some (.cells #[.slice A1 l1.length c1, .slice A2 l2.length c2] 26 (0, 0))) (h1 : IntsAt w w.heap.size A1 l1) (h2 : IntsAt w w.heap.size A2 l2) (n1 : A1 = none → c1 = 0) (n2 : A2 = none → c2 = 0) (hl : l1.length + l2.length ≤ 65536) :
    Calls Tryz.prog 31 #[.slice (some ⟨gb, 0, none⟩) 2 2] w fun e w' => (∃ v, e = .returned v ∧ w'.ownsRow w.heap.size 3 1 v (l1.length + l2.length) (cells (l1 ++ l2))) ∧ Below w.heap.size w w' := by
  have HG : Hid (∀ W, Calls Tryz.prog 53 #[.slice none 0 0, .int .i64 ((l1.length : Int) + (l2.length : Int))] W fun e w' => (∃ v, e = .returned v ∧ w'.ownsRow W.heap.size 3 1 v 0 []) ∧ Below W.heap.size W w') := Lib.hid fun W => by have := grow_any (l1.length + l2.length) (by omega) W; simpa using this
  have hg : gb < w.heap.size := lt_of_cells hb
  have HB : Hid (∀ W, Below w.heap.size w W → W.cell? ⟨gb, 0, none⟩ = some (.slice A1 l1.length c1) ∧ W.cell? ⟨gb, 1, none⟩ = some (.slice A2 l2.length c2)) := Lib.hid fun W h => ⟨by rw [cell_of_row W _ 0 _ _ _ (row_on hb h)]; rfl, by rw [cell_of_row W _ 1 _ _ _ (row_on hb h)]; rfl⟩
  have HI := Lib.hid (And.intro h1 h2)
  obtain ⟨q0, q1⟩ := HB.out w (Below.refl _ _)
  clear hb h1 h2
  go_enter Tryz.func31, Tryz.ntmps31
  go_wp2
  go_loopw [3, 11] (fun y z wr => w = wr ∧ ((y = .int .i64 0 ∧ z = .int .i64 ((0 : Nat) : Int)) ∨ (y = .int .i64 l1.length ∧ z = .int .i64 ((1 : Nat) : Int)) ∨ (y = .int .i64 ((l1.length + l2.length : Nat) : Int) ∧ z = .int .i64 ((2 : Nat) : Int)))) (fun _ z _ => 2 - (intOf z).toNat)
  case atStart => exact ⟨rfl, .inl ⟨rfl, rfl⟩⟩
  case round =>
    obtain ⟨rfl, ⟨rfl, rfl⟩ | ⟨rfl, rfl⟩ | ⟨rfl, rfl⟩⟩ := hrel
    · go_wp2
      go_roundw
      case rel => exact ⟨trivial, .inr (.inl ⟨by go_num, by go_num⟩)⟩
      case measure => simp [intOf]
    · go_wp2
      go_roundw
      case rel => exact ⟨trivial, .inr (.inr ⟨by go_num, by go_num⟩)⟩
      case measure => simp [intOf]
    · go_wp2_with fail
      refine (HG.out _).mono ?_
      rintro e w1 ⟨⟨v, rfl, hown⟩, hb1⟩
      have HW1 := Lib.hid (And.intro hown hb1)
      have hz1 := hb1.size
      clear hown hb1
      go_wp2
      go_loopw [6, 27] (fun y z w2 => ((z = .int .i64 ((0 : Nat) : Int) ∧ w2.ownsRow w.heap.size 3 1 y 0 []) ∨ (z = .int .i64 ((1 : Nat) : Int) ∧ w2.ownsRow w.heap.size 3 1 y l1.length (cells l1)) ∨ (z = .int .i64 ((2 : Nat) : Int) ∧ w2.ownsRow w.heap.size 3 1 y (l1.length + l2.length) (cells (l1 ++ l2)))) ∧ Below w.heap.size w w2) (fun _ z _ => 2 - (intOf z).toNat)
      case atStart => exact ⟨.inl ⟨rfl, HW1.out.1⟩, HW1.out.2⟩
      case round =>
        obtain ⟨hways, hb2⟩ := hrel
        have HB2 := Lib.hid hb2
        have hz2 := hb2.size
        obtain ⟨q3, q4⟩ := HB.out wr hb2
        have HJ := Lib.hid (And.intro (HI.out.1.below hb2) (HI.out.2.below hb2))
        clear hb2
        obtain ⟨i0, hi, hi0, hi1, hi2⟩ := info_parts intInfo
        have HI0 := Lib.hid (And.intro hi (And.intro hi0 (And.intro hi1 hi2)))
        clear hi hi0 hi1 hi2
        rcases hways with ⟨rfl, ho⟩ | ⟨rfl, ho⟩ | ⟨rfl, ho⟩
        · obtain ⟨A5, c5, hv5⟩ := own_form ho
          subst hv5
          have HO := Lib.hid ho
          clear ho
          go_wp2_with (at_builtin; refine wpList_append_ints (P := Tryz.prog) (w := wr) (B := w.heap.size) rfl _ _ 26 rfl w.heap.size 3 i0 (.int .i64 0) Tryz.underlying26 HI0.out.1 HI0.out.2.1 HI0.out.2.2.1 HI0.out.2.2.2 rfl _ 0 [] rfl HO.out A1 l1 c1 rfl n1 HJ.out.1 (by omega) hz2 ?_)
          intro v' w3 hown hgrow _
          have hz3 := hgrow.size
          have hbo := fun k hk => (HO.out.lt k hk).1
          obtain ⟨A6, c6, hv6⟩ := own_form hown
          subst hv6
          have HX := Lib.hid (And.intro hown (HB2.out.grown hgrow hz2 hbo))
          clear hown hgrow hbo
          go_wp2
          go_roundw
          case rel => exact ⟨.inr (.inl ⟨by go_num, by simpa using HX.out.1⟩), HX.out.2⟩
          case measure => simp [intOf]
        · obtain ⟨A5, c5, hv5⟩ := own_form ho
          subst hv5
          have HO := Lib.hid ho
          clear ho
          go_wp2_with (at_builtin; refine wpList_append_ints (P := Tryz.prog) (w := wr) (B := w.heap.size) rfl _ _ 26 rfl w.heap.size 3 i0 (.int .i64 0) Tryz.underlying26 HI0.out.1 HI0.out.2.1 HI0.out.2.2.1 HI0.out.2.2.2 rfl _ l1.length (cells l1) rfl HO.out A2 l2 c2 rfl n2 HJ.out.2 (by omega) hz2 ?_)
          intro v' w3 hown hgrow _
          have hz3 := hgrow.size
          have hbo := fun k hk => (HO.out.lt k hk).1
          obtain ⟨A6, c6, hv6⟩ := own_form hown
          subst hv6
          have HX := Lib.hid (And.intro hown (HB2.out.grown hgrow hz2 hbo))
          clear hown hgrow hbo
          go_wp2
          go_roundw
          case rel => exact ⟨.inr (.inr ⟨by go_num, by rw [cells_app]; exact HX.out.1⟩), HX.out.2⟩
          case measure => simp [intOf]
        · have HO := Lib.hid ho
          clear ho
          go_wp2
          go_ret
          exact ⟨⟨_, rfl, HO.out⟩, HB2.out⟩
end Go.Proofs.YtoopopjcojphaaaGreatDoor
/-
  PLAIN MATHEMATICS OF NUMBERING: a type whose variables are numbered as they come. Nothing of the program is named here.
-/
namespace Go.Proofs.YtoopopjcojphaaaGreatDoor
def mapN (f : Int → Int) (t : Tt) : Tt := cp (fun u => .mk u.kind (f u.num) u.name u.args) t
theorem mapN_var {f : Int → Int} {k n : Int} {s : ByteArray} {l : List Tt} (h : k = 1) : mapN f (.mk k n s l) = .mk k (f n) s (l.map (mapN f)) := cp_var h
theorem mapN_con {f : Int → Int} {k n : Int} {s : ByteArray} {l : List Tt} (h : k ≠ 1) : mapN f (.mk k n s l) = .mk k n s (l.map (mapN f)) := cp_con h
theorem mapN_kind (f : Int → Int) (t : Tt) : (mapN f t).kind = t.kind := by
  obtain ⟨k, n, s, l⟩ := t
  by_cases h : k = 1
  · rw [mapN_var h]; rfl
  · rw [mapN_con h]; rfl
theorem mapN_name (f : Int → Int) (t : Tt) : (mapN f t).name = t.name := by
  obtain ⟨k, n, s, l⟩ := t
  by_cases h : k = 1
  · rw [mapN_var h]; rfl
  · rw [mapN_con h]; rfl
theorem mapN_args (f : Int → Int) (t : Tt) : (mapN f t).args = t.args.map (mapN f) := by
  obtain ⟨k, n, s, l⟩ := t
  by_cases h : k = 1
  · rw [mapN_var h]; rfl
  · rw [mapN_con h]; rfl
theorem mapN_num (f : Int → Int) (t : Tt) : (mapN f t).num = if t.kind = 1 then f t.num else t.num := by
  obtain ⟨k, n, s, l⟩ := t
  by_cases h : k = 1
  · rw [mapN_var h, if_pos (by exact h)]; rfl
  · rw [mapN_con h, if_neg (by exact h)]; rfl
mutual
theorem pre_mapN (f : Int → Int) : ∀ t : Tt, pre (mapN f t) = (pre t).map (mapN f)
  | .mk k n s l => by
    have h := preL_mapN f l
    by_cases hk : k = 1
    · rw [mapN_var hk, pre, pre, List.map_cons, mapN_var hk, h]
    · rw [mapN_con hk, pre, pre, List.map_cons, mapN_con hk, h]
theorem preL_mapN (f : Int → Int) : ∀ l : List Tt, preL (l.map (mapN f)) = (preL l).map (mapN f)
  | [] => rfl
  | t :: r => by rw [List.map_cons, preL, preL, pre_mapN f t, preL_mapN f r, List.map_append]
end
mutual
theorem mapN_congr {f g : Int → Int} : ∀ t : Tt, (∀ u ∈ pre t, u.kind = 1 → f u.num = g u.num) → mapN f t = mapN g t
  | .mk k n s l, h => by
    have hl := mapN_congrL l fun u hu hk => h u (by rw [pre]; exact List.mem_cons_of_mem _ hu) hk
    by_cases hk : k = 1
    · rw [mapN_var hk, mapN_var hk, hl, show f n = g n from h (.mk k n s l) (by rw [pre]; exact List.mem_cons_self ..) hk]
    · rw [mapN_con hk, mapN_con hk, hl]
theorem mapN_congrL {f g : Int → Int} : ∀ l : List Tt, (∀ u ∈ preL l, u.kind = 1 → f u.num = g u.num) → l.map (mapN f) = l.map (mapN g)
  | [], _ => rfl
  | t :: r, h => by
    rw [List.map_cons, List.map_cons, mapN_congr t fun u hu hk => h u (by rw [preL]; exact List.mem_append_left _ hu) hk, mapN_congrL r fun u hu hk => h u (by rw [preL]; exact List.mem_append_right _ hu) hk]
end
mutual
theorem mapN_comp (f g : Int → Int) : ∀ t : Tt, mapN f (mapN g t) = mapN (fun x => f (g x)) t
  | .mk k n s l => by
    have hl := mapN_compL f g l
    by_cases hk : k = 1
    · rw [mapN_var hk, mapN_var hk, mapN_var hk, hl]
    · rw [mapN_con hk, mapN_con hk, mapN_con hk, hl]
theorem mapN_compL (f g : Int → Int) : ∀ l : List Tt, (l.map (mapN g)).map (mapN f) = l.map (mapN fun x => f (g x))
  | [] => rfl
  | t :: r => by rw [List.map_cons, List.map_cons, List.map_cons, mapN_comp f g t, mapN_compL f g r]
end
theorem canon_mapN (t : Tt) : canonT t = mapN (place0 (varsT t)) t := rfl
/-! ### The variables of a numbered type -/
theorem vstep_mem {vs : List Int} {t : Tt} {x : Int} : x ∈ (vstep vs t).1 ↔ x ∈ vs ∨ (t.kind = 1 ∧ x = t.num) := by
  unfold vstep; simp only
  split
  · rename_i h; rw [List.mem_append, List.mem_singleton]; exact ⟨fun e => e.imp id fun e => ⟨h.1, e⟩, fun e => e.imp id fun e => e.2⟩
  · rename_i h
    refine ⟨.inl, fun e => e.elim id fun e => ?_⟩
    rw [e.2]
    exact Decidable.of_not_not fun hn => h ⟨e.1, hn⟩
theorem vscan_iff {x : Int} : ∀ (P : List Tt) (vs : List Int), x ∈ (scan vstep vs P).1 ↔ x ∈ vs ∨ ∃ u ∈ P, u.kind = 1 ∧ x = u.num
  | [], vs => by simp [scan_nil]
  | a :: r, vs => by
    rw [scan_yes vstep rfl, vscan_iff r, vstep_mem]
    constructor
    · rintro ((h | h) | ⟨u, hu, h⟩)
      · exact .inl h
      · exact .inr ⟨a, List.mem_cons_self .., h⟩
      · exact .inr ⟨u, List.mem_cons_of_mem _ hu, h⟩
    · rintro (h | ⟨u, hu, h⟩)
      · exact .inl (.inl h)
      · rcases List.mem_cons.1 hu with rfl | hu
        · exact .inl (.inr h)
        · exact .inr ⟨u, hu, h⟩
theorem vstep_nodup {vs : List Int} (h : vs.Nodup) (t : Tt) : (vstep vs t).1.Nodup := by
  unfold vstep; simp only
  split
  · rename_i hc
    rw [List.nodup_append]
    refine ⟨h, by simp, ?_⟩
    intro a ha b hb e
    rw [List.mem_singleton] at hb
    subst hb; subst e
    exact hc.2 ha
  · exact h
theorem vscan_nodup : ∀ (P : List Tt) {vs : List Int}, vs.Nodup → (scan vstep vs P).1.Nodup
  | [], _, h => h
  | a :: r, vs, h => by rw [scan_yes vstep rfl]; exact vscan_nodup r (vstep_nodup h a)
theorem vars_nodup (t : Tt) : (varsT t).Nodup := vscan_nodup _ List.nodup_nil
theorem vscan_map {f : Int → Int} : ∀ (P : List Tt) (vs : List Int), (∀ x ∈ (scan vstep vs P).1, ∀ y ∈ (scan vstep vs P).1, f x = f y → x = y) → (scan vstep (vs.map f) (P.map (mapN f))).1 = (scan vstep vs P).1.map f
  | [], _, _ => rfl
  | a :: r, vs, h => by
    rw [List.map_cons, scan_yes vstep rfl, scan_yes vstep rfl]
    have e : (vstep (vs.map f) (mapN f a)).1 = (vstep vs a).1.map f := by
      unfold vstep; simp only [mapN_kind, mapN_num]
      by_cases hk : a.kind = 1
      · simp only [hk, if_true, true_and]
        have ha : a.num ∈ (scan vstep vs (a :: r)).1 := vscan_mem _ _ a (List.mem_cons_self ..) hk
        have e : f a.num ∈ vs.map f ↔ a.num ∈ vs := by
          constructor
          · intro hm
            obtain ⟨x, hx, e⟩ := List.mem_map.1 hm
            rw [h x (vscan_sub _ _ x hx) _ ha e] at hx; exact hx
          · exact fun hm => List.mem_map_of_mem hm
        by_cases hm : a.num ∈ vs
        · rw [if_neg (fun c => c (e.2 hm)), if_neg (fun c => c hm)]
        · rw [if_pos (fun c => hm (e.1 c)), if_pos hm, List.map_append]; rfl
      · rw [if_neg (fun c => hk c.1), if_neg (fun c => hk c.1)]
    rw [e]
    rw [scan_yes vstep rfl] at h
    exact vscan_map r _ h
theorem vars_map {f : Int → Int} {t : Tt} (h : ∀ x ∈ varsT t, ∀ y ∈ varsT t, f x = f y → x = y) : varsT (mapN f t) = (varsT t).map f := by
  unfold varsT; rw [pre_mapN]; exact vscan_map (pre t) [] h
theorem place0_inj {vs : List Int} {x y : Int} (hx : x ∈ vs) (hy : y ∈ vs) (h : place0 vs x = place0 vs y) : x = y := by
  unfold place0 at h
  rw [if_pos hx, if_pos hy] at h
  have hx' := List.getElem_idxOf (List.idxOf_lt_length_of_mem hx)
  have hy' := List.getElem_idxOf (List.idxOf_lt_length_of_mem hy)
  have e : vs.idxOf x = vs.idxOf y := by omega
  rw [← hx', ← hy']
  simp only [e]
theorem place0_at {vs : List Int} (hn : vs.Nodup) (i : Nat) (h : i < vs.length) : place0 vs vs[i] = i := by
  unfold place0
  rw [if_pos (List.getElem_mem h), List.Nodup.idxOf_getElem hn]
/-- The variables of a numbered type are 0, 1, .. -/
theorem canon_vars (t : Tt) : varsT (canonT t) = (List.range (varsT t).length).map fun (i : Nat) => (i : Int) := by
  rw [canon_mapN, vars_map fun x hx y hy h => place0_inj hx hy h]
  apply List.ext_getElem
  · simp
  · intro i h1 h2
    rw [List.getElem_map, List.getElem_map, List.getElem_range, place0_at (vars_nodup t)]
theorem canon_canon (t : Tt) : canonT (canonT t) = canonT t := by
  rw [canon_mapN (canonT t), canon_vars]
  rw [canon_mapN t, mapN_comp]
  refine mapN_congr t fun u hu hk => ?_
  have hm := vars_mem hu hk
  have hi := List.idxOf_lt_length_of_mem hm
  have e : place0 (varsT t) u.num = ((varsT t).idxOf u.num : Nat) := by unfold place0; rw [if_pos hm]
  rw [e]
  have hn : ((List.range (varsT t).length).map fun (i : Nat) => (i : Int)).Nodup := List.Pairwise.map _ (fun a b h e => h (Int.ofNat.inj e)) List.nodup_range
  have h := place0_at hn ((varsT t).idxOf u.num) (by simpa using hi)
  simp only [List.getElem_map, List.getElem_range] at h
  exact h
/-! ### Back -/
def backL (vs : List Int) : List Tt := vs.map fun x => Tt.mk 1 x ⟨#[]⟩ []
mutual
theorem back_eq (vs : List Int) : ∀ t : Tt, formedT t = true → (∀ u ∈ pre t, u.kind = 1 → u.num ∈ vs) → putT (backL vs) (mapN (place0 vs) t) = t
  | .mk k n s l, h, hv => by
    by_cases hk : k = 1
    · obtain ⟨_, rfl, rfl⟩ := formed_var h hk
      subst hk
      have hm : n ∈ vs := hv (.mk 1 n ⟨#[]⟩ []) (by simp [pre]) rfl
      have hi := List.idxOf_lt_length_of_mem hm
      rw [mapN_var rfl]
      unfold putT
      rw [cp_var rfl]
      have e : place0 vs n = (vs.idxOf n : Nat) := by unfold place0; rw [if_pos hm]
      rw [e]
      unfold putG
      rw [dif_pos (by simp only [Tt.num, backL, List.length_map]; omega)]
      simp only [Tt.num, backL, List.getElem_map, Int.toNat_natCast, List.getElem_idxOf hi]
    · have := back_eqL vs l (fun t ht => (formed_node h).2 t ht) fun t ht u hu => hv u (by simp only [pre]; exact List.mem_cons_of_mem _ (mem_preL ht hu))
      rw [mapN_con hk]
      unfold putT
      rw [cp_con hk]
      rw [show (l.map (mapN (place0 vs))).map (cp (putG (backL vs))) = l from this]
theorem back_eqL (vs : List Int) : ∀ l : List Tt, (∀ t ∈ l, formedT t = true) → (∀ t ∈ l, ∀ u ∈ pre t, u.kind = 1 → u.num ∈ vs) → (l.map (mapN (place0 vs))).map (putT (backL vs)) = l
  | [], _, _ => rfl
  | t :: r, h, hv => by
    rw [List.map_cons, List.map_cons, back_eq vs t (h t (List.mem_cons_self ..)) (hv t (List.mem_cons_self ..)), back_eqL vs r (fun u hu => h u (List.mem_cons_of_mem _ hu)) fun u hu => hv u (List.mem_cons_of_mem _ hu)]
end
theorem canon_back {t : Tt} (h : formedT t = true) : putT (backL (varsT t)) (canonT t) = t := back_eq _ t h fun _ hu hk => vars_mem hu hk
/-! ### Numbered alike -/
def headT (t : Tt) : Int × Int × ByteArray × Nat := (t.kind, t.num, t.name, t.args.length)
mutual
/-- A forest is told by the heads of its nodes, in their order. -/
theorem heads_inj : ∀ (t u : Tt) (R R' : List Tt), (pre t ++ R).map headT = (pre u ++ R').map headT → t = u ∧ R.map headT = R'.map headT
  | .mk k n s l, .mk k' n' s' l', R, R', h => by
    rw [pre, pre, List.cons_append, List.cons_append, List.map_cons, List.map_cons] at h
    obtain ⟨h0, h1⟩ := List.cons.inj h
    simp only [headT, Tt.kind, Tt.num, Tt.name, Tt.args, Prod.mk.injEq] at h0
    obtain ⟨rfl, rfl, rfl, hl⟩ := h0
    obtain ⟨rfl, h2⟩ := heads_injL l l' R R' hl h1
    exact ⟨rfl, h2⟩
theorem heads_injL : ∀ (l m : List Tt) (R R' : List Tt), l.length = m.length → (preL l ++ R).map headT = (preL m ++ R').map headT → l = m ∧ R.map headT = R'.map headT
  | [], m, R, R', hl, h => by
    obtain rfl : m = [] := List.eq_nil_of_length_eq_zero hl.symm
    exact ⟨rfl, h⟩
  | t :: r, m, R, R', hl, h => by
    match m, hl, h with
    | u :: q, hl, h =>
      rw [preL, preL, List.append_assoc, List.append_assoc] at h
      obtain ⟨rfl, h2⟩ := heads_inj t u _ _ h
      obtain ⟨rfl, h3⟩ := heads_injL r q R R' (by simpa using hl) h2
      exact ⟨rfl, h3⟩
end
/-- Node i of the two: of one kind, name, number of arguments, and, unless a variable, number. -/
def nodeLike (P Q : List Tt) (i : Nat) : Prop := ∀ (h1 : i < P.length) (h2 : i < Q.length), P[i].kind = Q[i].kind ∧ P[i].name = Q[i].name ∧ P[i].args.length = Q[i].args.length ∧ (P[i].kind ≠ 1 → P[i].num = Q[i].num)
/-- Variables k and i of the two: alike or unlike in both. -/
def varLike (P Q : List Tt) (i k : Nat) : Prop := ∀ (h1 : i < P.length) (h2 : i < Q.length) (h3 : k < P.length) (h4 : k < Q.length), P[i].kind = 1 → P[k].kind = 1 → (P[k].num = P[i].num ↔ Q[k].num = Q[i].num)
def Alike (P Q : List Tt) : Prop := P.length = Q.length ∧ ∀ i, nodeLike P Q i ∧ ∀ k, k < i → varLike P Q i k
theorem alike_of_canon {t u : Tt} (h : canonT t = canonT u) : Alike (pre t) (pre u) := by
  rw [canon_mapN, canon_mapN] at h
  have hp : (pre t).map (mapN (place0 (varsT t))) = (pre u).map (mapN (place0 (varsT u))) := by rw [← pre_mapN, ← pre_mapN, h]
  have hl : (pre t).length = (pre u).length := by simpa using congrArg List.length hp
  have hat : ∀ i (h1 : i < (pre t).length) (h2 : i < (pre u).length), mapN (place0 (varsT t)) (pre t)[i] = mapN (place0 (varsT u)) (pre u)[i] := by
    intro i h1 h2
    have := congrArg (fun l => l[i]?) hp
    simpa [List.getElem?_eq_getElem h1, List.getElem?_eq_getElem h2] using this
  have hnode : ∀ i, nodeLike (pre t) (pre u) i := by
    intro i h1 h2
    have e := hat i h1 h2
    have ek := congrArg Tt.kind e
    rw [mapN_kind, mapN_kind] at ek
    have en := congrArg Tt.name e
    rw [mapN_name, mapN_name] at en
    have ea := congrArg (fun t => t.args.length) e
    simp only [mapN_args, List.length_map] at ea
    refine ⟨ek, en, ea, fun hk => ?_⟩
    have em := congrArg Tt.num e
    rw [mapN_num, mapN_num, if_neg hk, if_neg (by rw [← ek]; exact hk)] at em
    exact em
  refine ⟨hl, fun i => ⟨hnode i, fun k hki h1 h2 h3 h4 hi hk => ?_⟩⟩
  have ei := congrArg Tt.num (hat i h1 h2)
  have ek := congrArg Tt.num (hat k h3 h4)
  have hi' : (pre u)[i].kind = 1 := by rw [← (hnode i h1 h2).1]; exact hi
  have hk' : (pre u)[k].kind = 1 := by rw [← (hnode k h3 h4).1]; exact hk
  rw [mapN_num, mapN_num, if_pos hi, if_pos hi'] at ei
  rw [mapN_num, mapN_num, if_pos hk, if_pos hk'] at ek
  constructor
  · intro e
    refine place0_inj (vars_mem (List.getElem_mem h4) hk') (vars_mem (List.getElem_mem h2) hi') ?_
    rw [← ei, ← ek, e]
  · intro e
    refine place0_inj (vars_mem (List.getElem_mem h3) hk) (vars_mem (List.getElem_mem h1) hi) ?_
    rw [ei, ek, e]
theorem vscan_take_mem {P : List Tt} {j : Nat} {x : Int} : x ∈ (scan vstep [] (P.take j)).1 ↔ ∃ k, ∃ h : k < P.length, k < j ∧ P[k].kind = 1 ∧ x = P[k].num := by
  rw [vscan_iff]
  constructor
  · rintro (h | ⟨u, hu, h⟩)
    · cases h
    · obtain ⟨k, hk, rfl⟩ := List.getElem_of_mem hu
      rw [List.length_take] at hk
      rw [List.getElem_take] at h
      exact ⟨k, by omega, by omega, h⟩
  · rintro ⟨k, hk, hj, h⟩
    refine .inr ⟨P[k], ?_, h⟩
    rw [← List.getElem_take (j := j) (h := by rw [List.length_take]; omega)]
    exact List.getElem_mem _
theorem place0_app {vs ws : List Int} {x : Int} (h : x ∈ vs) : place0 (vs ++ ws) x = place0 vs x := by
  unfold place0
  rw [if_pos h, if_pos (List.mem_append_left _ h), List.idxOf_append, if_pos h]
theorem place0_new {vs : List Int} {x : Int} (h : x ∉ vs) : place0 (vs ++ [x]) x = vs.length := by
  unfold place0
  rw [if_pos (by simp), List.idxOf_append, if_neg h]
  simp
theorem vstep_new {vs : List Int} {t : Tt} (hk : t.kind = 1) (hm : t.num ∉ vs) : (vstep vs t).1 = vs ++ [t.num] := by unfold vstep; simp only; rw [if_pos ⟨hk, hm⟩]
theorem vstep_old {vs : List Int} {t : Tt} (hm : t.num ∈ vs) : (vstep vs t).1 = vs := by unfold vstep; simp only; rw [if_neg fun c => c.2 hm]
theorem vstep_con {vs : List Int} {t : Tt} (hk : ¬ t.kind = 1) : (vstep vs t).1 = vs := by unfold vstep; simp only; rw [if_neg fun c => hk c.1]
theorem alike_places {P Q : List Tt} (h : Alike P Q) : ∀ j, j ≤ P.length → (scan vstep [] (P.take j)).1.length = (scan vstep [] (Q.take j)).1.length ∧ ∀ k (h1 : k < P.length) (h2 : k < Q.length), k < j → P[k].kind = 1 → place0 (scan vstep [] (P.take j)).1 P[k].num = place0 (scan vstep [] (Q.take j)).1 Q[k].num
  | 0, _ => ⟨rfl, fun k _ _ hk => absurd hk (Nat.not_lt_zero _)⟩
  | j + 1, hj => by
    obtain ⟨ih1, ih2⟩ := alike_places h j (by omega)
    have hP : j < P.length := by omega
    have hQ : j < Q.length := by have := h.1; omega
    rw [vstep_take hP, vstep_take hQ]
    have hn := (h.2 j).1 hP hQ
    by_cases hk : P[j].kind = 1
    · have hk' : Q[j].kind = 1 := by rw [← hn.1]; exact hk
      have hiff : P[j].num ∈ (scan vstep [] (P.take j)).1 ↔ Q[j].num ∈ (scan vstep [] (Q.take j)).1 := by
        rw [vscan_take_mem, vscan_take_mem]
        constructor
        · rintro ⟨k, h1, hkj, hk1, e⟩
          have h2 : k < Q.length := by have := h.1; omega
          exact ⟨k, h2, hkj, by rw [← ((h.2 k).1 h1 h2).1]; exact hk1, (((h.2 j).2 k hkj hP hQ h1 h2 hk hk1).1 e.symm).symm⟩
        · rintro ⟨k, h2, hkj, hk1, e⟩
          have h1 : k < P.length := by have := h.1; omega
          have hk1' : P[k].kind = 1 := by rw [((h.2 k).1 h1 h2).1]; exact hk1
          exact ⟨k, h1, hkj, hk1', (((h.2 j).2 k hkj hP hQ h1 h2 hk hk1').2 e.symm).symm⟩
      have hold : ∀ k (h1 : k < P.length) (h2 : k < Q.length), k < j → P[k].kind = 1 → P[k].num ∈ (scan vstep [] (P.take j)).1 ∧ Q[k].num ∈ (scan vstep [] (Q.take j)).1 := fun k h1 h2 hkj hk1 =>
        ⟨vscan_take_mem.2 ⟨k, h1, hkj, hk1, rfl⟩, vscan_take_mem.2 ⟨k, h2, hkj, by rw [← ((h.2 k).1 h1 h2).1]; exact hk1, rfl⟩⟩
      by_cases hm : P[j].num ∈ (scan vstep [] (P.take j)).1
      · have hm' := hiff.1 hm
        rw [vstep_old hm, vstep_old hm']
        refine ⟨ih1, fun k h1 h2 hkj hk1 => ?_⟩
        by_cases e : k = j
        · subst e
          obtain ⟨i, hi, hij, hi1, ei⟩ := vscan_take_mem.1 hm
          have hi2 : i < Q.length := by have := h.1; omega
          have := ih2 i hi hi2 hij hi1
          rw [ei, this, ((h.2 k).2 i hij hP hQ hi hi2 hk hi1).1 ei.symm]
        · exact ih2 k h1 h2 (by omega) hk1
      · have hm' : ¬ Q[j].num ∈ (scan vstep [] (Q.take j)).1 := fun c => hm (hiff.2 c)
        rw [vstep_new hk hm, vstep_new hk' hm']
        refine ⟨by simp only [List.length_append, ih1, List.length_singleton], fun k h1 h2 hkj hk1 => ?_⟩
        by_cases e : k = j
        · subst e
          simp only [place0_new hm, place0_new hm', ih1]
        · have ho := hold k h1 h2 (by omega) hk1
          simp only [place0_app ho.1, place0_app ho.2]
          exact ih2 k h1 h2 (by omega) hk1
    · have hk' : ¬ Q[j].kind = 1 := by rw [← hn.1]; exact hk
      rw [vstep_con hk, vstep_con hk']
      refine ⟨ih1, fun k h1 h2 hkj hk1 => ?_⟩
      by_cases e : k = j
      · subst e; exact absurd hk1 hk
      · exact ih2 k h1 h2 (by omega) hk1
theorem canon_of_alike {t u : Tt} (h : Alike (pre t) (pre u)) : canonT t = canonT u := by
  rw [canon_mapN, canon_mapN]
  obtain ⟨_, hp⟩ := alike_places h _ (Nat.le_refl _)
  have hl := h.1
  have e1 : (scan vstep [] ((pre t).take (pre t).length)).1 = varsT t := by rw [List.take_length]; rfl
  have e2 : (scan vstep [] ((pre u).take (pre t).length)).1 = varsT u := by rw [hl, List.take_length]; rfl
  rw [e1, e2] at hp
  refine (heads_inj _ _ [] [] ?_).1
  rw [List.append_nil, List.append_nil, pre_mapN, pre_mapN, List.map_map, List.map_map]
  apply List.ext_getElem
  · simpa using hl
  · intro i h1 h2
    rw [List.length_map] at h1 h2
    obtain ⟨hk, hs, ha, hn⟩ := (h.2 i).1 h1 h2
    simp only [List.getElem_map, Function.comp, headT, mapN_kind, mapN_name, mapN_args, mapN_num, List.length_map, Prod.mk.injEq]
    refine ⟨hk, ?_, hs, ha⟩
    by_cases e : (pre t)[i].kind = 1
    · rw [if_pos e, if_pos (by rw [← hk]; exact e)]
      exact hp i h1 h2 h1 e
    · rw [if_neg e, if_neg (by rw [← hk]; exact e)]
      exact hn e
theorem canon_alike (t u : Tt) : sameT (canonT t) (canonT u) = true ↔ Alike (pre t) (pre u) := by
  rw [sameT_iff]; exact ⟨alike_of_canon, canon_of_alike⟩
theorem canon_vars_len {t u : Tt} (h : canonT t = canonT u) : (varsT t).length = (varsT u).length := by
  have := congrArg (fun t => (varsT t).length) h
  simpa [canon_vars] using this
end Go.Proofs.YtoopopjcojphaaaGreatDoor
/-
  CONTRACTS OF scheme, III: Of.
-/
namespace Go.Proofs.YtoopopjcojphaaaGreatDoor
open Go.ChangeShapes Go.WideShapes Go.ChangeAt Go.RowKit
set_option linter.unusedVariables false
theorem pre_64 {w : World} {S : Nat → Prop} : ∀ (d : Nat) (t : Tt) (cs : List Value), TyRd w S d t cs → ∀ u ∈ pre t, -9223372036854775808 ≤ u.num ∧ u.num ≤ 9223372036854775807
  | 0, _, _, h => h.elim
  | d + 1, .mk k n s l, cs, h => by
    obtain ⟨A, c, _, hn, _, _, hk⟩ := h
    intro u hu
    rw [pre] at hu
    rcases List.mem_cons.1 hu with rfl | hu
    · exact hn
    · have key : ∀ m : List Tt, (∀ t ∈ m, ∃ cs, TyRd w S d t cs) → u ∈ preL m → -9223372036854775808 ≤ u.num ∧ u.num ≤ 9223372036854775807 := by
        intro m
        induction m with
        | nil => intro _ h; simp [preL] at h
        | cons x r ih =>
          intro hm hu
          rw [preL] at hu
          rcases List.mem_append.1 hu with hu | hu
          · obtain ⟨cs, hx⟩ := hm x (List.mem_cons_self ..)
            exact pre_64 d x cs hx u hu
          · exact ih (fun t ht => hm t (List.mem_cons_of_mem _ ht)) hu
      refine key l (fun t ht => ?_) hu
      obtain ⟨i, hi, he⟩ := List.getElem_of_mem ht
      obtain ⟨b, o, cs', _, _, _, hd⟩ := hk i t (by rw [List.getElem?_eq_getElem hi, he])
      exact ⟨cs', hd⟩
theorem vars_64 {w : World} {t : Tt} {v : Value} (h : Val w t v) : ∀ x ∈ varsT t, -9223372036854775808 ≤ x ∧ x ≤ 9223372036854775807 := by
  obtain ⟨A, c, _, d, hd⟩ := h
  intro x hx
  rcases (vscan_iff (pre t) []).1 hx with h | ⟨u, hu, _, rfl⟩
  · cases h
  · exact pre_64 d t _ hd u hu
theorem old_nodup (t : Tt) (keep : List Int) : (oldS t keep).Nodup := by
  unfold oldS
  rw [List.nodup_append]
  refine ⟨(vars_nodup t).filter _, (vars_nodup t).filter _, ?_⟩
  intro a ha b hb e
  subst e
  have h1 := out_in keep a (List.mem_filter.1 ha).2
  have h2 := (List.mem_filter.1 hb).2
  rw [h1] at h2; cases h2
/-- Two rows of numbers of the call's own, in different blocks. -/
structure Rows2 (w1 : World) (q fr : List Int) (v5 v6 : Value) (wr : World) : Prop where
  own5 : wr.ownsRow w1.heap.size 3 1 v5 q.length (cells q)
  own6 : wr.ownsRow w1.heap.size 3 1 v6 fr.length (cells fr)
  apart : ∀ g, v5.ownBlock = some g → v6.ownBlock ≠ some g
  below : Below w1.heap.size w1 wr
theorem own_ne {w : World} {base n : Nat} {v : Value} {xs : List Value} {b : Nat} (h : w.ownsRow base 3 1 v n xs) (hb : w.heap.size ≤ b) : v.ownBlock ≠ some b := fun e => by have := (h.lt _ e).2; omega
theorem kept_ne {a b : Value} (h : ∀ g, a.ownBlock = some g → b.ownBlock ≠ some g) : b.ownBlock = none ∨ b.ownBlock ≠ a.ownBlock := by
  cases hb : b.ownBlock with
  | none => exact .inl rfl
  | some g => exact .inr fun e => h g e.symm hb
theorem rows_5 {w1 wr w2 : World} {q fr : List Int} {x : Int} {v5 v6 v' : Value} (h : Rows2 w1 q fr v5 v6 wr) (hown : w2.ownsRow w1.heap.size 3 1 v' (q.length + 1) (cells q ++ [.int .i64 x])) (hg : (wr.alloc (.cells #[.int .i64 x] 3)).grownBy w2 v5.ownBlock)
    (hv : v'.ownBlock = v5.ownBlock ∨ v'.ownBlock = some (wr.heap.size + 1)) : Rows2 w1 (q ++ [x]) fr v' v6 w2 := by
  have hz := h.below.size
  refine ⟨by rw [List.length_append, cells_app]; exact hown, (h.own6.alloc _).kept hg (kept_ne h.apart), fun g e => ?_, (h.below.trans ((below_new wr (.cells #[.int .i64 x] 3)).mono hz)).grown hg (by simp; omega) fun k hk => (h.own5.lt k hk).1⟩
  rcases hv with hv | hv
  · exact h.apart g (hv ▸ e)
  · rw [hv] at e
    injection e with e
    subst e
    exact own_ne h.own6 (by omega)
theorem rows_6 {w1 wr w2 : World} {q fr : List Int} {x : Int} {v5 v6 v' : Value} (h : Rows2 w1 q fr v5 v6 wr) (hown : w2.ownsRow w1.heap.size 3 1 v' (fr.length + 1) (cells fr ++ [.int .i64 x])) (hg : (wr.alloc (.cells #[.int .i64 x] 3)).grownBy w2 v6.ownBlock)
    (hv : v'.ownBlock = v6.ownBlock ∨ v'.ownBlock = some (wr.heap.size + 1)) : Rows2 w1 q (fr ++ [x]) v5 v' w2 := by
  have hz := h.below.size
  refine ⟨(h.own5.alloc _).kept hg (kept_ne fun g e e' => h.apart g e' e), by rw [List.length_append, cells_app]; exact hown, fun g e e' => ?_, (h.below.trans ((below_new wr (.cells #[.int .i64 x] 3)).mono hz)).grown hg (by simp; omega) fun k hk => (h.own6.lt k hk).1⟩
  rcases hv with hv | hv
  · exact h.apart g e (hv ▸ e')
  · rw [hv] at e'
    injection e' with e'
    subst e'
    exact own_ne h.own5 (by omega) e
/-- What the map holds when the first j numbers have been numbered. -/
def plM (l : List Int) (j : Nat) (x : Int) : Option Value := if x ∈ l.take j then some (.agg #[.int .i64 1, .int .i64 ((l.take j).idxOf x : Nat), .string ⟨#[]⟩, .slice none 0 0]) else none
theorem plM_zero (l : List Int) : plM l 0 = fun _ => none := by funext x; simp [plM]
theorem plM_next {l : List Int} (hd : l.Nodup) {j : Nat} (hj : j < l.length) : putM (plM l j) l[j] (.agg #[.int .i64 1, .int .i64 (j : Nat), .string ⟨#[]⟩, .slice none 0 0]) = plM l (j + 1) := by
  funext x
  unfold putM plM
  have ht : l.take (j + 1) = l.take j ++ [l[j]] := List.take_succ_eq_append_getElem hj
  have hn : l[j] ∉ l.take j := by
    have h2 : (l.take (j + 1)).Nodup := hd.sublist (List.take_sublist _ _)
    rw [ht, List.nodup_append] at h2
    intro hm
    exact h2.2.2 _ hm _ (by simp) rfl
  by_cases hx : x = l[j]
  · subst hx
    rw [if_pos rfl, if_pos (by rw [ht]; exact List.mem_append.2 (.inr (List.mem_singleton.2 rfl))), ht, List.idxOf_append, if_neg hn]
    simp [List.length_take]; omega
  · rw [if_neg hx]
    by_cases hm : x ∈ l.take j
    · rw [if_pos hm, if_pos (by rw [ht]; exact List.mem_append.2 (.inl hm)), ht, List.idxOf_append, if_pos hm]
    · rw [if_neg hm, if_neg (by rw [ht]; exact fun h => (List.mem_append.1 h).elim hm fun h => hx (List.mem_singleton.1 h))]
theorem plM_all {w : World} {l : List Int} {mb n : Nat} (hl : l.length ≤ 1048576) (h : ValMap Tryz.prog 3 w mb n (plM l l.length)) : TMap w mb (placeF l) := by
  refine ⟨n, _, h, fun x => ?_⟩
  unfold placeF plM
  rw [List.take_length]
  by_cases hm : x ∈ l
  · rw [if_pos hm, if_pos hm]
    have := List.idxOf_lt_length_of_mem hm
    exact ⟨_, rfl, val_leaf w 1 _ _ (by omega) (by decide)⟩
  · rw [if_neg hm, if_neg hm]
theorem results_sof {tmps : Array Value} {w : World} {g : Nat} {cs : Array Value} {t : TypeId} {fr : Nat × Nat} (hp : tmps.getD 4 undef = .pointer (some ⟨g, 0, none⟩)) (hg : w.heap[g]? = some (.cells cs t fr)) (hi : (Tryz.prog.info? 28).map (·.size) = some cs.size) :
    (results Tryz.f10 tmps).run Tryz.prog w = .ok (.agg cs) w := results_cell_row rfl _ _ g t _ _ _ hp hg Tryz.underlying28 rfl hi
set_option maxRecDepth 100000 in
set_option maxHeartbeats 16000000 in
theorem sof_any {w : World} {t : Tt} {x : Value} (h : Val w t x) (hsz : (pre t).length ≤ 1048576) {keep : List Int} {Ak : Option Addr} {ck : Nat} (hkl : keep.length ≤ 1048576) (hK : IntsAt w w.heap.size Ak keep) :
    Calls Tryz.prog 10 #[x, .slice Ak keep.length ck] w (SGave w (ofV t keep) (ofT t keep)) := by
  have H := Lib.hid h
  obtain ⟨A, c, rfl, _⟩ := h
  obtain ⟨k, n, s, l⟩ := t
  simp only [Tt.kind, Tt.num, Tt.name, Tt.args] at H ⊢
  obtain ⟨w0, hw0⟩ : ∃ w0, w0 = ((w.alloc (.cells #[.int .i64 k, .int .i64 n, .string s, .slice A l.length c] 25)).alloc (.cells #[.int .i64 0, .int .i64 0, .int .i64 0, .string ⟨#[]⟩, .slice none 0 0] 28)) := ⟨_, rfl⟩
  have hb0 : Below w.heap.size w w0 := by rw [hw0]; exact (below_new _ _).alloc (by simp) _
  have hg0 : w0.heap[w.heap.size]? = some (.cells #[.int .i64 k, .int .i64 n, .string s, .slice A l.length c] 25 (0, 0)) := by rw [hw0]; exact heap_alloc2_old _ _ _
  have hz0 : w0.heap[w.heap.size + 1]? = some (.cells #[.int .i64 0, .int .i64 0, .int .i64 0, .string ⟨#[]⟩, .slice none 0 0] 28 (0, 0)) := by rw [hw0]; exact heap_alloc2_new _ _ _
  have HT := Lib.hid (H.out.on hb0)
  have HKE := Lib.hid ((hK.below hb0).more hb0.size)
  have HB := Lib.hid hb0
  have HG0 := Lib.hid hg0
  have HZ0 := Lib.hid hz0
  have HW0 := Lib.hid hw0
  have HSZ := Lib.hid hsz
  have HRT := Lib.hid (fun W (h : Val W (.mk k n s l) (.agg #[.int .i64 k, .int .i64 n, .string s, .slice A l.length c])) => right_val h hsz (low_all h))
  clear hb0 hg0 hz0 hw0 hK H hsz
  cases hr : rightT (.mk k n s l)
  case false =>
    have hr' : ¬ rightT' (.mk k n s l) = true := by rw [← right_same, hr]; simp
    have HI : Hid (ofV (.mk k n s l) keep = 0 ∧ ofT (.mk k n s l) keep = zT) := Lib.hid ⟨if_neg hr', if_neg hr'⟩
    rw [hr] at HRT
    clear hr hr'
    go_enter Tryz.func10, Tryz.ntmps10
    go_upto_region 1 with fail
    rw [← HW0.out]
    go_wp2_with (refine wpList_load_row rfl 25 _ rfl w.heap.size rfl 25 _ (0, 0) _ HG0.out Tryz.underlying25 rfl (tySizeA _ _ _ _) ?_)
    refine (HRT.out _ HT.out).mono ?_
    rintro e w1 ⟨rfl, hb1⟩
    have HB1 := Lib.hid (below_then HB.out hb1)
    have HZ1 := Lib.hid (row_on HZ0.out hb1)
    clear hb1
    go_wp2_with (refine wpList_store_row rfl 28 _ _ rfl (w.heap.size + 1) _ rfl rfl 28 #[.int .i64 0, .int .i64 0, .int .i64 0, .string ⟨#[]⟩, .slice none 0 0] HZ1.out (scSize _ _ _ _ _) rfl (one5 _ _ _ _ _ _ _) ?_)
    refine bodyPost_ret (v := .agg #[.int .i64 0, .int .i64 0, .int .i64 0, .string ⟨#[]⟩, .slice none 0 0]) (results_sof rfl (setRow_row HZ1.out) (scSize _ _ _ _ _)) rfl ?_
    rw [HI.out.1, HI.out.2]
    exact ⟨_, rfl, ⟨none, 0, rfl, TyR.mk (k := 0) (n := 0) (s := ⟨#[]⟩) (l := []) (by omega) (by simp) (by decide) Rows.nil, by omega⟩, below_setRow HB1.out (by omega)⟩
  case true =>
    have hr' : rightT' (.mk k n s l) = true := hr
    have h256 := (right_iff.1 hr').1
    have HI : Hid (ofV (.mk k n s l) keep = (((varsT (.mk k n s l)).filter (outK keep)).length : Nat) ∧ ofT (.mk k n s l) keep = rebT (placeF (oldS (.mk k n s l) keep)) (.mk k n s l)) := Lib.hid ⟨if_pos hr', if_pos hr'⟩
    have HOLD : Hid (oldS (.mk k n s l) keep = (varsT (.mk k n s l)).filter (outK keep) ++ (varsT (.mk k n s l)).filter (inK keep)) := Lib.hid rfl
    have HND := Lib.hid (old_nodup (.mk k n s l) keep)
    rw [hr] at HRT
    have hvl : (varsT (.mk k n s l)).length ≤ 256 := Nat.le_trans (vars_le _) h256
    generalize oldS (.mk k n s l) keep = old at *
    have HVR := Lib.hid (fun (W : World) (d : Nat) (h : TyRd W (Lt W.heap.size) d (.mk k n s l) [.int .i64 k, .int .i64 n, .string s, .slice A l.length c]) => vars_any d k n s l A c W _ (fun _ h => h) h HSZ.out)
    have HV64 : Hid (∀ x ∈ varsT (.mk k n s l), -9223372036854775808 ≤ x ∧ x ≤ 9223372036854775807) := Lib.hid fun x hx => vars_64 HT.out x hx
    generalize varsT (.mk k n s l) = vs at *
    clear hr hr' h256
    go_enter Tryz.func10, Tryz.ntmps10
    go_upto_region 1 with fail
    rw [← HW0.out]
    go_wp2_with (refine wpList_load_row rfl 25 _ rfl w.heap.size rfl 25 _ (0, 0) _ HG0.out Tryz.underlying25 rfl (tySizeA _ _ _ _) ?_)
    refine (HRT.out _ HT.out).mono ?_
    rintro e wa ⟨rfl, hba⟩
    have HBA := Lib.hid hba
    have HTA := Lib.hid (HT.out.on hba)
    have HGA := Lib.hid (row_on HG0.out hba)
    clear hba
    obtain ⟨_, _, hvv, d0, hd0⟩ := id HTA.out
    simp only [Value.agg.injEq, Array.mk.injEq, List.cons.injEq, Value.slice.injEq, and_true, true_and, Tt.kind, Tt.num, Tt.name, Tt.args] at hvv
    obtain ⟨rfl, rfl⟩ := hvv
    have HVV := Lib.hid (HVR.out wa d0 hd0)
    have HD0 := Lib.hid hd0
    clear hd0
    go_wp2_with (refine wpList_load_row rfl 25 _ rfl w.heap.size rfl 25 _ (0, 0) _ HGA.out Tryz.underlying25 rfl (tySizeA _ _ _ _) ?_)
    refine HVV.out.mono ?_
    rintro e w1 ⟨A1, c1, rfl, hi1, hc1, hc2, _, hb1⟩
    have HB1 := Lib.hid (below_then HBA.out hb1)
    have HI1 := Lib.hid hi1
    have HG1 := Lib.hid (row_on HGA.out hb1)
    have hz01 := HB1.out.size
    have HKE1 := Lib.hid ((HKE.out.below HB1.out).more HB1.out.size)
    have HD1 := Lib.hid (TyRd.more (fun b hb => Nat.lt_of_lt_of_le hb hb1.size) _ _ _ (TyRd.keep (Same.lt hb1) _ _ _ HD0.out))
    have HHAS := Lib.hid (fun (W : World) (x : Int) (h : Below w1.heap.size w1 W) => contains_any keep x _ ck hkl W _ (HKE1.out.below h))
    clear hi1 hb1 hc1 hc2
    go_wp2
    go_loopw [5, 6, 19] (fun v5 v6 z wr => ∃ j : Nat, j ≤ vs.length ∧ z = .int .i64 j ∧ Rows2 w1 ((vs.take j).filter (outK keep)) ((vs.take j).filter (inK keep)) v5 v6 wr) (fun _ _ z _ => vs.length - (intOf z).toNat)
    case atStart => exact ⟨0, Nat.zero_le _, rfl, World.ownsRow_nil _ _ _ _, World.ownsRow_nil _ _ _ _, fun g e => (by cases e), Below.refl _ _⟩
    case round =>
      obtain ⟨j, hj, rfl, hat⟩ := hrel
      have HAT := Lib.hid hat
      obtain ⟨A5, c5, hv5⟩ := own_form hat.own5
      obtain ⟨A6, c6, hv6⟩ := own_form hat.own6
      have hwr : w1.heap.size ≤ wr.heap.size := hat.below.size
      have HIJ := Lib.hid (HI1.out.below hat.below)
      clear hat
      by_cases hlt : j < vs.length
      · obtain ⟨ad, hAd, hadb, hcd⟩ := HIJ.out.at_ hlt
        subst hAd
        have HH := Lib.hid (HHAS.out wr vs[j] HAT.out.below)
        by_cases hm : vs[j] ∈ keep
        · rw [decide_eq_true hm] at HH
          have hvl1 : ((vs.take j).filter (inK keep)).length + 1 ≤ vs.length := filt_len hlt
          have HF := Lib.hid (filt_yes (p := inK keep) hlt (in_yes hm))
          have HF2 := Lib.hid (filt_no (p := outK keep) hlt (out_no hm))
          generalize vs[j] = xj at *
          generalize (vs.take j).filter (inK keep) = cu at *
          generalize (vs.take j).filter (outK keep) = cx at *
          clear hm
          subst hv5
          subst hv6
          obtain ⟨i0, hi, hi0, hi1, hi2⟩ := info_parts intInfo
          have HI0 := Lib.hid (And.intro hi (And.intro hi0 (And.intro hi1 hi2)))
          clear hi hi0 hi1 hi2
          have HO := Lib.hid (HAT.out.own6.alloc (.cells #[.int .i64 xj] 3))
          go_wp2_with (first
            | (go_at_call 30; refine HH.out.mono ?_; rintro e w' ⟨rfl, rfl⟩)
            | (at_builtin; refine wpList_append_own_at _ rfl (.tmp 26) (.tmp 28) 26 rfl w1.heap.size 3 i0 (.int .i64 0) 1 8 Tryz.underlying26 HI0.out.1 HI0.out.2.1 HI0.out.2.2.1 HI0.out.2.2.2 rfl (by decide) (.slice A6 cu.length c6) cu.length (cells cu) rfl HO.out ⟨wr.heap.size, 0, none⟩ 1 1 [.int .i64 xj] rfl rfl ?c1 ?c2 ?c3 ?c4 ?c5 ?_))
          case c1 => exact new_cells wr [.int .i64 xj] 3
          case c2 => simp [Value.oneCell']
          case c3 => unfold maxLen; omega
          case c4 => omega
          case c5 => simp; omega
          intro v' w2 hown2 hgrow _ hvb
          obtain ⟨A4, n4, c4, rfl⟩ := own_slice hown2
          have HX := Lib.hid (rows_6 HAT.out hown2 hgrow hvb)
          clear hown2 hgrow hvb
          go_wp2
          go_roundw
          case rel => exact ⟨j + 1, by omega, by go_num, by rw [HF.out, HF2.out]; exact HX.out⟩
          case measure => simp [intOf]; omega
        · rw [decide_eq_false hm] at HH
          have hvl1 : ((vs.take j).filter (outK keep)).length + 1 ≤ vs.length := filt_len hlt
          have HF := Lib.hid (filt_yes (p := outK keep) hlt (out_yes hm))
          have HF2 := Lib.hid (filt_no (p := inK keep) hlt (in_no hm))
          generalize vs[j] = xj at *
          generalize (vs.take j).filter (outK keep) = cu at *
          generalize (vs.take j).filter (inK keep) = cx at *
          clear hm
          subst hv5
          subst hv6
          obtain ⟨i0, hi, hi0, hi1, hi2⟩ := info_parts intInfo
          have HI0 := Lib.hid (And.intro hi (And.intro hi0 (And.intro hi1 hi2)))
          clear hi hi0 hi1 hi2
          have HO := Lib.hid (HAT.out.own5.alloc (.cells #[.int .i64 xj] 3))
          go_wp2_with (first
            | (go_at_call 30; refine HH.out.mono ?_; rintro e w' ⟨rfl, rfl⟩)
            | (at_builtin; refine wpList_append_own_at _ rfl (.tmp 30) (.tmp 32) 26 rfl w1.heap.size 3 i0 (.int .i64 0) 1 8 Tryz.underlying26 HI0.out.1 HI0.out.2.1 HI0.out.2.2.1 HI0.out.2.2.2 rfl (by decide) (.slice A5 cu.length c5) cu.length (cells cu) rfl HO.out ⟨wr.heap.size, 0, none⟩ 1 1 [.int .i64 xj] rfl rfl ?c1 ?c2 ?c3 ?c4 ?c5 ?_))
          case c1 => exact new_cells wr [.int .i64 xj] 3
          case c2 => simp [Value.oneCell']
          case c3 => unfold maxLen; omega
          case c4 => omega
          case c5 => simp; omega
          intro v' w2 hown2 hgrow _ hvb
          obtain ⟨A4, n4, c4, rfl⟩ := own_slice hown2
          have HX := Lib.hid (rows_5 HAT.out hown2 hgrow hvb)
          clear hown2 hgrow hvb
          go_wp2
          go_roundw
          case rel => exact ⟨j + 1, by omega, by go_num, by rw [HF.out, HF2.out]; exact HX.out⟩
          case measure => simp [intOf]; omega
      · obtain rfl : j = vs.length := by omega
        rw [List.take_length] at HAT hv5 hv6
        have hmm := @run_makeMap Tryz.prog
        subst hv5
        subst hv6
        have HO64 : Hid (∀ x ∈ old, -9223372036854775808 ≤ x ∧ x ≤ 9223372036854775807) := Lib.hid fun x hx => HV64.out x (by rw [HOLD.out] at hx; rcases List.mem_append.1 hx with h | h <;> exact (List.mem_filter.1 h).1)
        have hlen : (vs.filter (outK keep)).length + (vs.filter (inK keep)).length ≤ vs.length := by
          have := two_len vs (outK keep) (inK keep) (out_in keep) vs.length
          rw [List.take_length] at this; exact this
        have HN5 := Lib.hid (inone HAT.out.own5)
        have HN6 := Lib.hid (inone HAT.out.own6)
        generalize vs.filter (outK keep) = q at *
        generalize vs.filter (inK keep) = fr at *
        clear hlt hj
        obtain ⟨wq, hwq⟩ : ∃ wq, wq = wr := ⟨_, rfl⟩
        subst hwq
        obtain ⟨wb, hwb⟩ : ∃ wb, wb = (wq.alloc (.map #[] 0)).alloc (.cells #[.slice A5 q.length c5, .slice A6 fr.length c6] 26) := ⟨_, rfl⟩
        have hbb : Below wq.heap.size wq wb := by rw [hwb]; exact (below_new _ _).alloc (by simp) _
        have hzb : wb.heap.size = wq.heap.size + 2 := by rw [hwb]; simp
        have hmb : ValMap Tryz.prog 3 wb wq.heap.size 0 (plM old 0) := by
          rw [plM_zero, hwb]
          exact (ValMap.made Tryz.prog 3 wq).on (by have := below_new (wq.alloc (.map #[] 0)) (.cells #[.slice A5 q.length c5, .slice A6 fr.length c6] 26); exact this)
        have hcb : wb.heap[wq.heap.size + 1]? = some (.cells #[.slice A5 q.length c5, .slice A6 fr.length c6] 26 (0, 0)) := by rw [hwb]; exact heap_alloc2_new _ _ _
        have h5 := (ints_own HAT.out.own5).2.1
        have h6 := (ints_own HAT.out.own6).2.1
        have HCC := Lib.hid (concat_any q fr A5 A6 c5 c6 (wq.heap.size + 1) wb hcb ((h5.below hbb).more hbb.size) ((h6.below hbb).more hbb.size) HN5.out HN6.out (by omega))
        have HBB := Lib.hid hbb
        have HMB := Lib.hid hmb
        have HWB := Lib.hid hwb
        clear hwb hbb hmb hcb h5 h6
        go_wp2_with fail
        rw [← HWB.out]
        refine HCC.out.mono ?_
        rintro e w3 ⟨⟨v3, rfl, hown3⟩, hb3⟩
        obtain ⟨A3, c3, hv3⟩ := own_form hown3
        subst hv3
        rw [← HOLD.out] at hown3
        have hol : q.length + fr.length = old.length := by rw [HOLD.out, List.length_append]
        rw [hol] at hown3
        have hz3 := hb3.size
        have HM3 := Lib.hid (HMB.out.on hb3)
        have HO3 := Lib.hid hown3
        have HB3 := Lib.hid (below_then HBB.out hb3)
        clear hown3 hb3
        go_wp2
        go_loopw [41] (fun z wx => ∃ j : Nat, j ≤ old.length ∧ z = .int .i64 j ∧ ValMap Tryz.prog 3 wx wq.heap.size j (plM old j) ∧ w3.grownBy wx (some wq.heap.size)) (fun z _ => old.length - (intOf z).toNat)
        case atStart => exact ⟨0, Nat.zero_le _, by rfl, HM3.out, World.grownBy.refl _ _⟩
        case round =>
          obtain ⟨j, hj, rfl, hmap, hgx⟩ := hrel
          have HGX := Lib.hid hgx
          have hzx := hgx.size
          have HOX := Lib.hid (HO3.out.kept hgx (.inr fun e => by have := (HO3.out.lt _ e).1; omega))
          by_cases hlt : j < old.length
          · obtain ⟨ad, hAd, hadb, hcd⟩ := (ints_own HOX.out).2.1.at_ hlt
            subst hAd
            have hn64 : -9223372036854775808 ≤ old[j] ∧ old[j] ≤ 9223372036854775807 := HO64.out _ (List.getElem_mem hlt)
            have HPN := Lib.hid (plM_next HND.out hlt)
            obtain ⟨D, hD1, hD2, hD3⟩ := hmap
            have HD := Lib.hid (And.intro hD1 (And.intro hD2 hD3))
            generalize old[j] = xj at *
            clear hD1 hD2 hD3 hgx
            go_wp2_with (refine wpList_mapUpdate_own _ rfl _ _ _ 47 rfl 3 25 (Maps.int_keyed Tryz.underlying3) Tryz.underlying47 heldElem wq.heap.size j D rfl HD.out.1 (by unfold maxLen; omega) (.int .i64 xj) (.agg #[.int .i64 1, .int .i64 j, .string ⟨#[]⟩, .slice none 0 0]) (.int .i64 xj) rfl rfl (Maps.keyOf_int_mk Tryz.underlying3 (wf64 hn64)) _ [] rfl ?_)
            intro wy hown1 hg1
            have hmy := ValMap.next HD.out.2.1 HD.out.2.2 hown1
            rw [HPN.out] at hmy
            have HMY := Lib.hid (And.intro hmy (HGX.out.trans hg1))
            clear hmy hown1 hg1
            go_wp2
            go_roundw
            case rel => exact ⟨j + 1, by omega, by go_num, HMY.out⟩
            case measure => simp [intOf]; omega
          · obtain rfl : j = old.length := by omega
            have hb := HO3.out
            have hwx0 : Below w1.heap.size w1 wr := by
              have hA := (HAT.out.below.trans (HB3.out.mono hwr))
              exact hA.grown hgx hA.size (fun k hk => by cases hk; exact hwr)
            have hww : Below w.heap.size w wr := below_then HB.out (below_then HB1.out hwx0)
            have HTM := Lib.hid (plM_all (by omega) hmap)
            have HGT := Lib.hid (row_on HG1.out hwx0)
            have HZT := Lib.hid (row_on HZ0.out (below_then HB1.out hwx0))
            have hlt1 := lt_of_cells HG1.out
            have hP : TyP wr (Lt w1.heap.size) d0 (.mk k n s l) w.heap.size 0 := ⟨hlt1, _, range_row (cs := [.int .i64 k, .int .i64 n, .string s, .slice A l.length c]) HGT.out, TyRd.keep (Same.lt hwx0) _ _ _ HD1.out⟩
            have HRB := Lib.hid (reb_any d0 (.mk k n s l) w.heap.size 0 wr (Lt w1.heap.size) HTM.out (fun x hx => Nat.lt_of_lt_of_le hx hwx0.size) hP)
            have HWW := Lib.hid hww
            have hzt := lt_of_cells HZT.out
            have hql : (q.length : Int) ≤ 1048576 := by omega
            clear hP hwx0 hww hmap hgx hb
            go_wp2_with fail
            refine HRB.out.mono ?_
            rintro e w5 ⟨A7, c7, rfl, h6, h7⟩
            have HM := Lib.hid h6
            have HB5 := Lib.hid (below_then HWW.out h7)
            have HZ5 := Lib.hid (row_on HZT.out h7)
            clear h6 h7
            generalize rebT (placeF old) (.mk k n s l) = T at *
            generalize q.length = Q at *
            go_wp2_with (refine wpList_store_row rfl 28 _ _ rfl (w.heap.size + 1) _ rfl rfl 28 #[.int .i64 0, .int .i64 0, .int .i64 0, .string ⟨#[]⟩, .slice none 0 0] HZ5.out (scSize _ _ _ _ _) rfl (one5 _ _ _ _ _ _ _) ?_)
            refine bodyPost_ret (v := .agg #[.int .i64 (Q : Int), .int .i64 T.kind, .int .i64 T.num, .string T.name, .slice A7 T.args.length c7]) (results_sof rfl (setRow_row HZ5.out) (scSize _ _ _ _ _)) rfl ?_
            rw [HI.out.1, HI.out.2]
            obtain ⟨f1, f2⟩ := boxed_end (w := w) (b := w.heap.size + 1) (r := #[.int .i64 (Q : Int), .int .i64 T.kind, .int .i64 T.num, .string T.name, .slice A7 T.args.length c7]) HM.out hzt (by omega) HB5.out
            exact ⟨_, rfl, ⟨A7, c7, rfl, TyR.more (fun b hb => hb.2) f1, by omega⟩, f2⟩
end Go.Proofs.YtoopopjcojphaaaGreatDoor
