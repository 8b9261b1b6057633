/-
  ty.renumbered.
-/
import Derived.Test.YtgdclchpccbifaaTyF
import Derived.Test.YtgdclchpccbifaaNumMap
import Derived.Test.YtgdclchpccbifaaAppend
namespace Go.Proofs.Ytgdclchpccbifaa
open Go.ChangeShapes Go.WideShapes Go.ChangeAt Go.RowKit
set_option linter.unusedVariables false
theorem zeroI (w : World) : (zeroValue 3).run Try.prog w = .ok (.int .i64 0) w := by kernel_rfl
theorem intInfo : (Try.prog.info? 3).map (fun i => (i.zero, i.size, i.bytes)) = some (some (.int .i64 0), 1, 8) := by kernel_rfl
/-- What the closure keeps: the map (block M), the cell of the map (M + 1), that of the list (M + 2); w0 is the world before. -/
structure NumAt (w0 : World) (vs : List Int) (w : World) : Prop where
  below : Below w0.heap.size w0 w
  map : NumMap Try.prog 3 3 w w0.heap.size vs.length vs
  mcell : w.heap[w0.heap.size + 1]? = some (.cells #[.map (some w0.heap.size)] 90 (0, 0))
  row : ∃ sv, w.heap[w0.heap.size + 2]? = some (.cells #[sv] 35 (0, 0)) ∧ w.ownsRow (w0.heap.size + 3) 3 1 sv vs.length (cells vs)
  few : vs.length ≤ 1048576
theorem NumAt.size {w0 w : World} {vs : List Int} (h : NumAt w0 vs w) : w0.heap.size + 3 ≤ w.heap.size := by
  obtain ⟨sv, h1, _⟩ := h.row
  have := (Array.getElem?_eq_some_iff.1 h1).1; omega
theorem cell_one {w : World} {b : Nat} {v : Value} {t : TypeId} {fr : Nat × Nat} (h : w.heap[b]? = some (.cells #[v] t fr)) : w.cell? ⟨b, 0, none⟩ = some v := by rw [cell_of_row w b 0 _ _ _ h]; rfl
theorem NumAt.drew {w0 w : World} {vs : List Int} (h : NumAt w0 vs w) : NumAt w0 vs w.drew := ⟨below_drew1 h.below, h.map, h.mcell, h.row, h.few⟩
theorem num_apart {w : World} {base n b : Nat} {e : TypeId} {v : Value} {xs : List Value} (h : w.ownsRow base e 1 v n xs) (hb : b < base) : v.ownBlock = none ∨ v.ownBlock ≠ some b := by
  refine .inr fun e => ?_
  have := (h.lt _ e).1; omega
theorem num_next {w0 w w1 wa w2 : World} {vs : List Int} {x : Int} {sv v' : Value} (h : NumAt w0 vs w) (hm : NumMap Try.prog 3 3 w1 w0.heap.size (vs.length + 1) (vs ++ [x])) (hg1 : w.drew.drew.grownBy w1 (some w0.heap.size)) (hba : Below w1.heap.size w1 wa)
    (hro : wa.ownsRow (w0.heap.size + 3) 3 1 sv vs.length (cells vs)) (hown : w2.ownsRow (w0.heap.size + 3) 3 1 v' (vs.length + 1) (cells vs ++ [.int .i64 x])) (hg : wa.grownBy w2 sv.ownBlock)
    (hb : ∀ k, k < w0.heap.size + 3 → k ≠ w0.heap.size → w2.heap[k]? = w.heap[k]?) (hbm : w2.heap[w0.heap.size]? = w1.heap[w0.heap.size]?) (hs : w2.heap[w0.heap.size + 2]? = some (.cells #[sv] 35 (0, 0))) (hfew : vs.length + 1 ≤ 1048576) :
    NumAt w0 (vs ++ [x]) (w2.setCell ⟨w0.heap.size + 2, 0, none⟩ v') := by
  have hz := h.size
  have hsz : (w2.setCell ⟨w0.heap.size + 2, 0, none⟩ v').heap.size = w2.heap.size := by simp
  have hz1 : w.heap.size ≤ w1.heap.size := hg1.size
  have hz2 := hba.size
  have hz3 := hg.size
  refine ⟨⟨?_, ?_, ?_, by have := h.below.size; omega, fun k hk => ?_⟩, ?_, ?_, ⟨v', ?_, ?_⟩, by simpa using hfew⟩
  · exact hg.os.trans (hba.os.trans (hg1.os.trans h.below.os))
  · exact hg.tape.trans (hba.tape.trans (hg1.tape.trans h.below.tape))
  · exact hg.output.trans (hba.output.trans (hg1.output.trans h.below.output))
  · rw [heap_setCell_other w2 _ _ _ (by simp; omega), hb k (by omega) (by omega)]; exact h.below.block k hk
  · rw [List.length_append]
    exact hm.block ((heap_setCell_other w2 _ _ _ (by simp)).trans hbm)
  · rw [heap_setCell_other w2 _ _ _ (by simp), hb _ (by omega) (by omega)]; exact h.mcell
  · rw [heap_setCell_same w2 _ 0 _ _ _ hs]; rfl
  · rw [List.length_append, cells_app]
    refine (hown.kept (row := some (w0.heap.size + 2)) ⟨rfl, rfl, rfl, by omega, fun k _ hne => heap_setCell_other w2 _ _ _ (by simpa using hne)⟩ (num_apart hown (by omega)))
set_option maxHeartbeats 1000000 in
theorem renum1_any (w0 w : World) (vs : List Int) (S : Nat → Prop) (hS : ∀ b, S b → b < w0.heap.size) (hI : NumAt w0 vs w) (hfew : vs.length + 1 ≤ 1048576) (d : Nat) (t : Tt) (b o : Nat) (hP : TyP w S d t b o) :
    Calls Try.prog 69 #[.pointer (some ⟨b, o, none⟩), .pointer (some ⟨w0.heap.size + 1, 0, none⟩), .pointer (some ⟨w0.heap.size + 2, 0, none⟩)] w fun e w' => e = .returned (.bool (vstep vs t).2) ∧ NumAt w0 (vstep vs t).1 w' := by
  obtain ⟨A, c, d', rfl, hN, hn, hlen, hnm, hSb, _⟩ := hP.node
  have hbl := hS b hSb
  have HN := Lib.hid hN
  have HI := Lib.hid hI
  have HV : Hid ((vstep vs t).1 = (if t.kind = 1 ∧ t.num ∉ vs then vs ++ [t.num] else vs)) := Lib.hid rfl
  have q0 := hN.1
  clear hN hI hP
  by_cases hk : t.kind = 1
  case neg =>
    have e1 : (t.kind == 1) = false := by simpa using hk
    have HK := Lib.hid hk
    clear hk
    go_enter Try.func69, Try.ntmps69
    go_wp2
    go_ret
    refine ⟨rfl, ?_⟩
    rw [HV.out, if_neg (fun h => HK.out h.1)]
    exact HI.out
  have e1 : (t.kind == 1) = true := by simpa using hk
  have HK := Lib.hid hk
  clear hk
  have HL : Hid (∀ W', NumAt w0 vs W' → (Instr.lookup 90 (.map (some w0.heap.size)) (.int .i64 t.num) true).run Try.prog W' = .ok (.tuple #[.int .i64 (place0 vs t.num), .bool (decide (t.num ∈ vs))]) W') := Lib.hid fun W' h => h.map.look_ok Try.underlying3 Try.underlying3 Try.underlying90 (zeroI _) hn
  have HC : Hid (∀ W', NumAt w0 vs W' ∧ Same S w W' → W'.cell? ⟨b, o + 1, none⟩ = some (.int .i64 t.num)) := Lib.hid fun W' h => (HN.out.keep h.2 hSb).2.1
  have HM : Hid (∀ W', NumAt w0 vs W' → W'.cell? ⟨w0.heap.size + 1, 0, none⟩ = some (.map (some w0.heap.size))) := Lib.hid fun W' h => cell_one h.mcell
  by_cases hm : t.num ∈ vs
  · have HMM := Lib.hid hm
    rw [decide_eq_true hm] at HL
    clear hm
    go_enter Try.func69, Try.ntmps69
    go_wp2
    refine wp_region_K (fun w' => NumAt w0 vs w' ∧ Same S w w') (fun j => true) (by kernel_rfl) ?_
    refine wpK_take (v := ?_) (a' := ?_) 0 rfl (by kernel_rfl) (by kernel_rfl) (by kernel_rfl) (by kernel_rfl) (by kernel_rfl) (fun _ _ _ h => h) (⟨HI.out.drew, Same.refl _ _⟩) ?_ ?_ ?_
    rotate_left 2
    · refine .inl ⟨by kernel_rfl, ?_⟩; intro wS hS; have q1 := HC.out _ hS; have q2 := HM.out _ hS.1; have q3 := HL.out _ hS.1; go_simp; with_reducible rfl
    · go_simp; with_reducible rfl
    refine wpK_take0 (v := ?_) (a' := ?_) 1 rfl (by kernel_rfl) (by kernel_rfl) (by kernel_rfl) (by kernel_rfl) (fun _ _ _ h => h) ?_ ?_ ?_
    rotate_left 2
    · refine .inl ⟨by kernel_rfl, ?_⟩; intro wS hS; clear hS; go_simp; with_reducible rfl
    · go_simp; with_reducible rfl
    refine wpK_take0 (v := ?_) (a' := ?_) 2 rfl (by kernel_rfl) (by kernel_rfl) (by kernel_rfl) (by kernel_rfl) (fun _ _ _ h => h) ?_ ?_ ?_
    rotate_left 2
    · refine .inl ⟨by kernel_rfl, ?_⟩; intro wS hS; clear hS; go_simp; with_reducible rfl
    · go_simp; with_reducible rfl
    refine wpK_take0 (v := ?_) (a' := ?_) 3 rfl (by kernel_rfl) (by kernel_rfl) (by kernel_rfl) (by kernel_rfl) (fun _ _ _ h => h) ?_ ?_ ?_
    rotate_left 2
    · refine .inl ⟨by kernel_rfl, ?_⟩; intro wS hS; clear hS; go_simp; with_reducible rfl
    · go_simp; with_reducible rfl
    refine wpK_take (v := ?_) (a' := ?_) 4 rfl (by kernel_rfl) (by kernel_rfl) (by kernel_rfl) (by kernel_rfl) (by kernel_rfl) (fun _ _ _ h => h) (⟨HI.out.drew, Same.refl _ _⟩) ?_ ?_ ?_
    rotate_left 2
    · refine .inl ⟨by kernel_rfl, ?_⟩; intro wS hS; have q1 := HC.out _ hS; have q2 := HM.out _ hS.1; have q3 := HL.out _ hS.1; go_simp; with_reducible rfl
    · go_simp; with_reducible rfl
    refine wpK_take (v := ?_) (a' := ?_) 5 rfl (by kernel_rfl) (by kernel_rfl) (by kernel_rfl) (by kernel_rfl) (by kernel_rfl) (fun _ _ _ h => h) (⟨HI.out.drew, Same.refl _ _⟩) ?_ ?_ ?_
    rotate_left 2
    · refine .inl ⟨by kernel_rfl, ?_⟩; intro wS hS; have q1 := HC.out _ hS; have q2 := HM.out _ hS.1; have q3 := HL.out _ hS.1; go_simp; with_reducible rfl
    · go_simp; with_reducible rfl
    refine wpK_take0 (v := ?_) (a' := ?_) 6 rfl (by kernel_rfl) (by kernel_rfl) (by kernel_rfl) (by kernel_rfl) (fun _ _ _ h => h) ?_ ?_ ?_
    rotate_left 2
    · refine .inl ⟨by kernel_rfl, ?_⟩; intro wS hS; clear hS; go_simp; with_reducible rfl
    · go_simp; with_reducible rfl
    refine wpK_take0 (v := ?_) (a' := ?_) 7 rfl (by kernel_rfl) (by kernel_rfl) (by kernel_rfl) (by kernel_rfl) (fun _ _ _ h => h) ?_ ?_ ?_
    rotate_left 2
    · refine .inl ⟨by kernel_rfl, ?_⟩; intro wS hS; clear hS; go_simp; with_reducible rfl
    · go_simp; with_reducible rfl
    refine wpK_take0 (v := ?_) (a' := ?_) 8 rfl (by kernel_rfl) (by kernel_rfl) (by kernel_rfl) (by kernel_rfl) (fun _ _ _ h => h) ?_ ?_ ?_
    rotate_left 2
    · refine .inl ⟨by kernel_rfl, ?_⟩; intro wS hS; clear hS; go_simp; with_reducible rfl
    · go_simp; with_reducible rfl
    refine wpK_take0 (v := ?_) (a' := ?_) 9 rfl (by kernel_rfl) (by kernel_rfl) (by kernel_rfl) (by kernel_rfl) (fun _ _ _ h => h) ?_ ?_ ?_
    rotate_left 2
    · refine .inl ⟨by kernel_rfl, ?_⟩; intro wS hS; clear hS; go_simp; with_reducible rfl
    · go_simp; with_reducible rfl
    refine wpK_take0 (v := ?_) (a' := ?_) 10 rfl (by kernel_rfl) (by kernel_rfl) (by kernel_rfl) (by kernel_rfl) (fun _ _ _ h => h) ?_ ?_ ?_
    rotate_left 2
    · refine .inl ⟨by kernel_rfl, ?_⟩; intro wS hS; clear hS; go_simp; with_reducible rfl
    · go_simp; with_reducible rfl
    refine wpK_end (by kernel_rfl) ?_ _
    go_wp2
    go_ret
    refine ⟨rfl, ?_⟩
    rw [HV.out, if_neg (fun h => h.2 HMM.out)]
    exact HI.out.drew
  · have HMM := Lib.hid hm
    rw [decide_eq_false hm] at HL
    clear hm
    obtain ⟨sv, hsv, hrow⟩ := HI.out.row
    obtain ⟨A5, c5, hsv5⟩ := own_form hrow
    subst hsv5
    obtain ⟨D, hD1, hD2, hD3⟩ := HI.out.map
    have hzz := HI.out.size
    have hvl : vs.length ≤ 1048576 := HI.out.few
    have HROW := Lib.hid (And.intro hsv hrow)
    have HD := Lib.hid (And.intro hD1 (And.intro hD2 hD3))
    clear hsv hrow hD1 hD2 hD3
    have HC2 : Hid (∀ W', NumAt w0 vs W' ∧ Same S w W' ∧ (∀ k, k < w.heap.size → W'.heap[k]? = w.heap[k]?) → W'.cell? ⟨w0.heap.size + 2, 0, none⟩ = some (.slice A5 vs.length c5)) := Lib.hid fun W' h => cell_one ((h.2.2 _ (by omega)).trans HROW.out.1)
    go_enter Try.func69, Try.ntmps69
    go_wp2
    refine wp_region_K (fun w' => NumAt w0 vs w' ∧ Same S w w') (fun j => true) (by kernel_rfl) ?_
    refine wpK_take (v := ?_) (a' := ?_) 0 rfl (by kernel_rfl) (by kernel_rfl) (by kernel_rfl) (by kernel_rfl) (by kernel_rfl) (fun _ _ _ h => h) (⟨HI.out.drew, Same.refl _ _⟩) ?_ ?_ ?_
    rotate_left 2
    · refine .inl ⟨by kernel_rfl, ?_⟩; intro wS hS; have q1 := HC.out _ hS; have q2 := HM.out _ hS.1; have q3 := HL.out _ hS.1; go_simp; with_reducible rfl
    · go_simp; with_reducible rfl
    refine wpK_take0 (v := ?_) (a' := ?_) 1 rfl (by kernel_rfl) (by kernel_rfl) (by kernel_rfl) (by kernel_rfl) (fun _ _ _ h => h) ?_ ?_ ?_
    rotate_left 2
    · refine .inl ⟨by kernel_rfl, ?_⟩; intro wS hS; clear hS; go_simp; with_reducible rfl
    · go_simp; with_reducible rfl
    refine wpK_take0 (v := ?_) (a' := ?_) 2 rfl (by kernel_rfl) (by kernel_rfl) (by kernel_rfl) (by kernel_rfl) (fun _ _ _ h => h) ?_ ?_ ?_
    rotate_left 2
    · refine .inl ⟨by kernel_rfl, ?_⟩; intro wS hS; clear hS; go_simp; with_reducible rfl
    · go_simp; with_reducible rfl
    refine wpK_take0 (v := ?_) (a' := ?_) 3 rfl (by kernel_rfl) (by kernel_rfl) (by kernel_rfl) (by kernel_rfl) (fun _ _ _ h => h) ?_ ?_ ?_
    rotate_left 2
    · refine .inl ⟨by kernel_rfl, ?_⟩; intro wS hS; clear hS; go_simp; with_reducible rfl
    · go_simp; with_reducible rfl
    refine wpK_take (v := ?_) (a' := ?_) 4 rfl (by kernel_rfl) (by kernel_rfl) (by kernel_rfl) (by kernel_rfl) (by kernel_rfl) (fun _ _ _ h => h) (⟨HI.out.drew, Same.refl _ _⟩) ?_ ?_ ?_
    rotate_left 2
    · refine .inl ⟨by kernel_rfl, ?_⟩; intro wS hS; have q1 := HC.out _ hS; have q2 := HM.out _ hS.1; have q3 := HL.out _ hS.1; go_simp; with_reducible rfl
    · go_simp; with_reducible rfl
    refine wpK_take (v := ?_) (a' := ?_) 5 rfl (by kernel_rfl) (by kernel_rfl) (by kernel_rfl) (by kernel_rfl) (by kernel_rfl) (fun _ _ _ h => h) (⟨HI.out.drew, Same.refl _ _⟩) ?_ ?_ ?_
    rotate_left 2
    · refine .inl ⟨by kernel_rfl, ?_⟩; intro wS hS; have q1 := HC.out _ hS; have q2 := HM.out _ hS.1; have q3 := HL.out _ hS.1; go_simp; with_reducible rfl
    · go_simp; with_reducible rfl
    refine wpK_take0 (v := ?_) (a' := ?_) 6 rfl (by kernel_rfl) (by kernel_rfl) (by kernel_rfl) (by kernel_rfl) (fun _ _ _ h => h) ?_ ?_ ?_
    rotate_left 2
    · refine .inl ⟨by kernel_rfl, ?_⟩; intro wS hS; clear hS; go_simp; with_reducible rfl
    · go_simp; with_reducible rfl
    refine wpK_take0 (v := ?_) (a' := ?_) 7 rfl (by kernel_rfl) (by kernel_rfl) (by kernel_rfl) (by kernel_rfl) (fun _ _ _ h => h) ?_ ?_ ?_
    rotate_left 2
    · refine .inl ⟨by kernel_rfl, ?_⟩; intro wS hS; clear hS; go_simp; with_reducible rfl
    · go_simp; with_reducible rfl
    refine wpK_take0 (v := ?_) (a' := ?_) 8 rfl (by kernel_rfl) (by kernel_rfl) (by kernel_rfl) (by kernel_rfl) (fun _ _ _ h => h) ?_ ?_ ?_
    rotate_left 2
    · refine .inl ⟨by kernel_rfl, ?_⟩; intro wS hS; clear hS; go_simp; with_reducible rfl
    · go_simp; with_reducible rfl
    refine wpK_take0 (v := ?_) (a' := ?_) 9 rfl (by kernel_rfl) (by kernel_rfl) (by kernel_rfl) (by kernel_rfl) (fun _ _ _ h => h) ?_ ?_ ?_
    rotate_left 2
    · refine .inl ⟨by kernel_rfl, ?_⟩; intro wS hS; clear hS; go_simp; with_reducible rfl
    · go_simp; with_reducible rfl
    refine wpK_take0 (v := ?_) (a' := ?_) 10 rfl (by kernel_rfl) (by kernel_rfl) (by kernel_rfl) (by kernel_rfl) (fun _ _ _ h => h) ?_ ?_ ?_
    rotate_left 2
    · refine .inl ⟨by kernel_rfl, ?_⟩; intro wS hS; clear hS; go_simp; with_reducible rfl
    · go_simp; with_reducible rfl
    refine wpK_end (by kernel_rfl) ?_ _
    go_wp2
    refine wp_region_K (fun w' => NumAt w0 vs w' ∧ Same S w w' ∧ (∀ k, k < w.heap.size → w'.heap[k]? = w.heap[k]?)) (fun j => j != 7) (by kernel_rfl) ?_
    refine wpK_take (v := ?_) (a' := ?_) 0 rfl (by kernel_rfl) (by kernel_rfl) (by kernel_rfl) (by kernel_rfl) (by kernel_rfl) (fun _ _ _ h => h) (⟨HI.out.drew.drew, Same.refl _ _, fun _ _ => rfl⟩) ?_ ?_ ?_
    rotate_left 2
    · refine .inl ⟨by kernel_rfl, ?_⟩; intro wS hS; have q1 := HC.out _ ⟨hS.1, hS.2.1⟩; have q2 := HM.out _ hS.1; have q3 := HC2.out _ hS; go_simp; with_reducible rfl
    · go_simp; with_reducible rfl
    refine wpK_take0 (v := ?_) (a' := ?_) 1 rfl (by kernel_rfl) (by kernel_rfl) (by kernel_rfl) (by kernel_rfl) (fun _ _ _ h => h) ?_ ?_ ?_
    rotate_left 2
    · refine .inl ⟨by kernel_rfl, ?_⟩; intro wS hS; clear hS; go_simp; with_reducible rfl
    · go_simp; with_reducible rfl
    refine wpK_take0 (v := ?_) (a' := ?_) 2 rfl (by kernel_rfl) (by kernel_rfl) (by kernel_rfl) (by kernel_rfl) (fun _ _ _ h => h) ?_ ?_ ?_
    rotate_left 2
    · refine .inl ⟨by kernel_rfl, ?_⟩; intro wS hS; clear hS; go_simp; with_reducible rfl
    · go_simp; with_reducible rfl
    refine wpK_take0 (v := ?_) (a' := ?_) 3 rfl (by kernel_rfl) (by kernel_rfl) (by kernel_rfl) (by kernel_rfl) (fun _ _ _ h => h) ?_ ?_ ?_
    rotate_left 2
    · refine .inl ⟨by kernel_rfl, ?_⟩; intro wS hS; clear hS; go_simp; with_reducible rfl
    · go_simp; with_reducible rfl
    refine wpK_take (v := ?_) (a' := ?_) 4 rfl (by kernel_rfl) (by kernel_rfl) (by kernel_rfl) (by kernel_rfl) (by kernel_rfl) (fun _ _ _ h => h) (⟨HI.out.drew.drew, Same.refl _ _, fun _ _ => rfl⟩) ?_ ?_ ?_
    rotate_left 2
    · refine .inl ⟨by kernel_rfl, ?_⟩; intro wS hS; have q1 := HC.out _ ⟨hS.1, hS.2.1⟩; have q2 := HM.out _ hS.1; have q3 := HC2.out _ hS; go_simp; with_reducible rfl
    · go_simp; with_reducible rfl
    refine wpK_take (v := ?_) (a' := ?_) 5 rfl (by kernel_rfl) (by kernel_rfl) (by kernel_rfl) (by kernel_rfl) (by kernel_rfl) (fun _ _ _ h => h) (⟨HI.out.drew.drew, Same.refl _ _, fun _ _ => rfl⟩) ?_ ?_ ?_
    rotate_left 2
    · refine .inl ⟨by kernel_rfl, ?_⟩; intro wS hS; have q1 := HC.out _ ⟨hS.1, hS.2.1⟩; have q2 := HM.out _ hS.1; have q3 := HC2.out _ hS; go_simp; with_reducible rfl
    · go_simp; with_reducible rfl
    refine wpK_take0 (v := ?_) (a' := ?_) 6 rfl (by kernel_rfl) (by kernel_rfl) (by kernel_rfl) (by kernel_rfl) (fun _ _ _ h => h) ?_ ?_ ?_
    rotate_left 2
    · refine .inl ⟨by kernel_rfl, ?_⟩; intro wS hS; clear hS; go_simp; with_reducible rfl
    · go_simp; with_reducible rfl
    refine wpK_one 7 rfl (by kernel_rfl) (fun K hK => ?_)
    have HKK := Lib.hid hK
    clear hK
    refine wpList_mapUpdate_own _ rfl (.tmp 23) (.tmp 27) (.tmp 29) 90 rfl 3 3 (Maps.int_keyed Try.underlying3) Try.underlying90 (plainElem Try.prog 3) w0.heap.size vs.length D rfl HD.out.1 (by unfold maxLen; omega) (.int .i64 t.num) (.int .i64 vs.length) (.int .i64 t.num) rfl rfl (Maps.keyOf_int_mk Try.underlying3 (wf64 hn)) (.lit (.int .i64 vs.length)) [] (plainElem_int Try.underlying3 (wf64 (by omega))) ?_
    intro w1 hown1 hg1
    have HW1 := Lib.hid (And.intro (NumMap.next HD.out.2.1 HD.out.2.2 HMM.out hown1) hg1)
    clear hown1 hg1
    refine wpList_nil ?_
    refine HKK.out _ _ (fun h => absurd h (by decide)) ?_
    refine wpK_end (by kernel_rfl) ?_ _
    clear HKK HD HC2 HL HM
    have hz1 : w.heap.size ≤ w1.heap.size := HW1.out.2.size
    have hold : ∀ k, k < w.heap.size → k ≠ w0.heap.size → w1.heap[k]? = w.heap[k]? := fun k hk hne => HW1.out.2.block k hk (by simpa using hne)
    have HOLD := Lib.hid hold
    clear hold
    have HCN : Hid (∀ W', Below w1.heap.size w1 W' → W'.cell? ⟨b, o + 1, none⟩ = some (.int .i64 t.num)) := Lib.hid fun W' h => (HN.out.keep (Same.trans (S := S) (fun x y hx => World.cell?_of_block (a := ⟨x, y, none⟩) (HOLD.out x (by have := hS x hx; omega) (by have := hS x hx; omega))) (Same.of_below h (fun x hx => by have := hS x hx; omega))) hSb).2.1
    have HC3 : Hid (∀ W', Below w1.heap.size w1 W' → W'.cell? ⟨w0.heap.size + 2, 0, none⟩ = some (.slice A5 vs.length c5)) := Lib.hid fun W' h => cell_one ((h.block _ (by omega)).trans ((HOLD.out _ (by omega) (by omega)).trans HROW.out.1))
    go_wp2
    refine wp_region_K (fun w' => Below w1.heap.size w1 w') (fun j => j != 6 && j != 7) (by kernel_rfl) ?_
    refine wpK_take (v := ?_) (a' := ?_) 0 rfl (by kernel_rfl) (by kernel_rfl) (by kernel_rfl) (by kernel_rfl) (by kernel_rfl) (fun _ _ _ h => h) (below_drew1 (Below.refl _ _)) ?_ ?_ ?_
    rotate_left 2
    · refine .inl ⟨by kernel_rfl, ?_⟩; intro wS hS; have q1 := HCN.out _ hS; have q3 := HC3.out _ hS; go_simp; with_reducible rfl
    · go_simp; with_reducible rfl
    refine wpK_take0 (v := ?_) (a' := ?_) 1 rfl (by kernel_rfl) (by kernel_rfl) (by kernel_rfl) (by kernel_rfl) (fun _ _ _ h => h) ?_ ?_ ?_
    rotate_left 2
    · refine .inl ⟨by kernel_rfl, ?_⟩; intro wS hS; clear hS; go_simp; with_reducible rfl
    · go_simp; with_reducible rfl
    refine wpK_take0 (v := ?_) (a' := ?_) 2 rfl (by kernel_rfl) (by kernel_rfl) (by kernel_rfl) (by kernel_rfl) (fun _ _ _ h => h) ?_ ?_ ?_
    rotate_left 2
    · refine .inl ⟨by kernel_rfl, ?_⟩; intro wS hS; clear hS; go_simp; with_reducible rfl
    · go_simp; with_reducible rfl
    refine wpK_take0 (v := ?_) (a' := ?_) 3 rfl (by kernel_rfl) (by kernel_rfl) (by kernel_rfl) (by kernel_rfl) (fun _ _ _ h => h) ?_ ?_ ?_
    rotate_left 2
    · refine .inl ⟨by kernel_rfl, ?_⟩; intro wS hS; clear hS; go_simp; with_reducible rfl
    · go_simp; with_reducible rfl
    refine wpK_take (v := ?_) (a' := ?_) 4 rfl (by kernel_rfl) (by kernel_rfl) (by kernel_rfl) (by kernel_rfl) (by kernel_rfl) (fun _ _ _ h => h) (below_drew1 (Below.refl _ _)) ?_ ?_ ?_
    rotate_left 2
    · refine .inl ⟨by kernel_rfl, ?_⟩; intro wS hS; have q1 := HCN.out _ hS; have q3 := HC3.out _ hS; go_simp; with_reducible rfl
    · go_simp; with_reducible rfl
    refine wpK_one 5 rfl (by kernel_rfl) (fun K hK => ?_)
    have HKK := Lib.hid hK
    clear hK
    go_wp2
    refine HKK.out _ _ (fun _ hS => hS.trans ((below_new _ _).mono hS.size)) ?_
    refine wpK_one 6 rfl (by kernel_rfl) (fun K hK => ?_)
    have HKK := Lib.hid hK
    clear hK
    have hbw : Below w1.heap.size w1 (w1.alloc (.cells #[.int .i64 t.num] 3)).drew := below_drew1 (below_new w1 _)
    have hro : (w1.alloc (.cells #[.int .i64 t.num] 3)).drew.ownsRow (w0.heap.size + 3) 3 1 (.slice A5 vs.length c5) vs.length (cells vs) :=
      (World.ownsRow.kept (w := w.drew.drew) HROW.out.2 HW1.out.2 (num_apart HROW.out.2 (by omega))).alloc _
    have HRO := Lib.hid hro
    have HBW := Lib.hid hbw
    obtain ⟨i0, hi, hi0, hi1, hi2⟩ := info_parts intInfo
    have HI0 := Lib.hid (And.intro hi (And.intro hi0 (And.intro hi1 hi2)))
    clear hi hi0 hi1 hi2 hro hbw
    refine wpList_append_own_at _ rfl (.tmp 30) (.tmp 35) 35 rfl (w0.heap.size + 3) 3 i0 (.int .i64 0) 1 8 Try.underlying35 HI0.out.1 HI0.out.2.1 HI0.out.2.2.1 HI0.out.2.2.2 rfl (by decide)
      (.slice A5 vs.length c5) vs.length (cells vs) rfl HRO.out ⟨w1.heap.size, 0, none⟩ 1 1 [.int .i64 t.num] rfl rfl ?c1 ?c2 ?c3 ?c4 ?c5 ?_
    case c1 => exact new_cells w1 [.int .i64 t.num] 3
    case c2 => simp [Value.oneCell']
    case c3 => unfold maxLen; omega
    case c4 => omega
    case c5 => simp; omega
    intro v' w2 hown2 hgrow _ hv'
    obtain ⟨A4, n4, c4, rfl⟩ := own_slice hown2
    have HO := Lib.hid (And.intro hown2 (And.intro hgrow hv'))
    clear hown2 hgrow hv'
    refine wpList_nil ?_
    refine HKK.out _ _ (fun h => absurd h (by decide)) ?_
    refine wpK_one 7 rfl (by kernel_rfl) (fun K hK => ?_)
    have HKK := Lib.hid hK
    clear hK
    have hb2 : ∀ k, k < w0.heap.size + 3 → k ≠ w0.heap.size → w2.heap[k]? = w.heap[k]? := fun k hk hne => by
      rw [HO.out.2.1.block k (by have := HBW.out.size; omega) (fun e => by have := (HRO.out.lt _ e.symm).1; omega), HBW.out.block k (by omega)]; exact HOLD.out k (by omega) hne
    have hbm : w2.heap[w0.heap.size]? = w1.heap[w0.heap.size]? := by
      rw [HO.out.2.1.block _ (by have := HBW.out.size; omega) (fun e => by have := (HRO.out.lt _ e.symm).1; omega), HBW.out.block _ (by omega)]
    have hs2 := (hb2 (w0.heap.size + 2) (by omega) (by omega)).trans HROW.out.1
    have HB2 := Lib.hid (And.intro hb2 (And.intro hbm hs2))
    have f1 := cell_one hs2
    have f2 := frozen_of_row w2 (w0.heap.size + 2) 0 _ _ hs2
    clear hb2 hbm hs2
    go_wp2
    refine HKK.out _ _ (fun h => absurd h (by decide)) ?_
    refine wpK_end (by kernel_rfl) ?_ _
    clear HKK f1 f2
    go_wp2
    go_ret
    refine ⟨rfl, ?_⟩
    rw [HV.out, if_pos ⟨HK.out, HMM.out⟩]
    exact num_next HI.out HW1.out.1 HW1.out.2 HBW.out HRO.out HO.out.1 HO.out.2.1 HB2.out.1 HB2.out.2.1 HB2.out.2.2 hfew
theorem vstep_len (vs : List Int) (t : Tt) : (vstep vs t).1.length ≤ vs.length + 1 := by unfold vstep; simp only; split <;> simp
theorem num_start (w : World) : NumAt w [] (((w.alloc (.map #[] 0)).alloc (.cells #[.map (some w.heap.size)] 90)).alloc (.cells #[.slice none 0 0] 35)) := by
  refine ⟨((below_new w _).alloc (by simp) _).alloc (by simp; omega) _, ?_, heap_alloc3_mid _ _ _ _, ⟨_, heap_alloc3_new _ _ _ _, World.ownsRow_nil _ _ _ _⟩, by simp⟩
  exact ((NumMap.made Try.prog 3 3 w).block (w' := ((w.alloc (.map #[] 0)).alloc (.cells #[.map (some w.heap.size)] 90)).alloc (.cells #[.slice none 0 0] 35)) (by rw [heap_alloc3_old, heap_alloc_new]))
theorem renum_asked (w : World) (S : Nat → Prop) (hS : ∀ b, S b → b < w.heap.size) : Asked w S (NumAt w) 69 #[.pointer (some ⟨w.heap.size + 1, 0, none⟩), .pointer (some ⟨w.heap.size + 2, 0, none⟩)] vstep (fun vs _ => vs.length + 1 ≤ 1048576) :=
  ⟨fun s w' h => Same.of_below h.below hS, fun args w => by kernel_rfl, fun vs w' d t b o hI hg hP => renum1_any w w' vs S hS hI hg d t b o hP⟩
/-- What renumbered returns. -/
def Renum (w : World) (vs : List Int) (e : Ending) (w' : World) : Prop :=
  ∃ A c, e = .returned (.tuple #[.map (some w.heap.size), .slice A vs.length c]) ∧ NumMap Try.prog 3 3 w' w.heap.size vs.length vs ∧ IntsAt w' w'.heap.size A vs ∧ vs.length ≤ c ∧ c ≤ maxLen ∧ (∀ ad : Addr, A = some ad → w.heap.size ≤ ad.block) ∧ Below w.heap.size w w'
theorem renum_any (d : Nat) (t : Tt) (b o : Nat) (w : World) (S : Nat → Prop) (hS : ∀ b, S b → b < w.heap.size) (hP : TyP w S d t b o) (hsz : (pre t).length ≤ 1048576) :
    Calls Try.prog 50 #[.pointer (some ⟨b, o, none⟩)] w (Renum w (varsT t)) := by
  have HC : Hid (∃ w3, w3 = ((w.alloc (.map #[] 0)).alloc (.cells #[.map (some w.heap.size)] 90)).alloc (.cells #[.slice none 0 0] 35) ∧
      Calls Try.prog 40 #[.pointer (some ⟨b, o, none⟩), .func (.func 69) #[] #[.pointer (some ⟨w.heap.size + 1, 0, none⟩), .pointer (some ⟨w.heap.size + 2, 0, none⟩)]] w3 fun e w' => e = .returned (.bool true) ∧ NumAt w (varsT t) w') := Lib.hid (by
    refine ⟨_, rfl, ?_⟩
    have := all_any (renum_asked w S hS) d t [] _ b o (num_start w) (goods_of vstep List.length 1048576 vstep_len (fun _ _ h => h) _ _ (by simpa using hsz)) hP
    rw [scan_true (fun s a => rfl)] at this
    exact this)
  obtain ⟨w3, hw3, hc3⟩ := HC.out
  have HW := Lib.hid hw3
  have H3 := Lib.hid hc3
  have hmm := @run_makeMap Try.prog
  clear HC hw3 hc3 hP hS hsz
  go_enter Try.func50, Try.ntmps50
  go_wp2_with fail
  rw [← HW.out]
  refine H3.out.mono ?_
  rintro e w1 ⟨rfl, hat⟩
  have HAT := Lib.hid hat
  obtain ⟨sv, hsv, hrow⟩ := hat.row
  obtain ⟨A5, c5, hsv5⟩ := own_form hrow
  subst hsv5
  have HROW := Lib.hid (And.intro hsv hrow)
  have q1 := cell_one hat.mcell
  have q2 := cell_one hsv
  clear hsv hrow hat
  go_wp2
  refine wp_region_K (fun w' => w'.heap = w1.heap) (fun j => true) (by kernel_rfl) ?_
  refine wpK_take (v := ?_) (a' := ?_) 0 rfl (by kernel_rfl) (by kernel_rfl) (by kernel_rfl) (by kernel_rfl) (by kernel_rfl) (fun _ _ _ h => h) (rfl) ?_ ?_ ?_
  rotate_left 2
  · refine .inl ⟨by kernel_rfl, ?_⟩; intro wS hS; have q3 : wS.cell? ⟨w.heap.size + 1, 0, none⟩ = some (.map (some w.heap.size)) := (World.cell?_of_block (a := ⟨w.heap.size + 1, 0, none⟩) (by rw [hS])).trans q1; have q4 : wS.cell? ⟨w.heap.size + 2, 0, none⟩ = some (.slice A5 (varsT t).length c5) := (World.cell?_of_block (a := ⟨w.heap.size + 2, 0, none⟩) (by rw [hS])).trans q2; clear hS; go_simp; with_reducible rfl
  · go_simp; with_reducible rfl
  refine wpK_take (v := ?_) (a' := ?_) 1 rfl (by kernel_rfl) (by kernel_rfl) (by kernel_rfl) (by kernel_rfl) (by kernel_rfl) (fun _ _ _ h => h) (rfl) ?_ ?_ ?_
  rotate_left 2
  · refine .inl ⟨by kernel_rfl, ?_⟩; intro wS hS; have q3 : wS.cell? ⟨w.heap.size + 1, 0, none⟩ = some (.map (some w.heap.size)) := (World.cell?_of_block (a := ⟨w.heap.size + 1, 0, none⟩) (by rw [hS])).trans q1; have q4 : wS.cell? ⟨w.heap.size + 2, 0, none⟩ = some (.slice A5 (varsT t).length c5) := (World.cell?_of_block (a := ⟨w.heap.size + 2, 0, none⟩) (by rw [hS])).trans q2; clear hS; go_simp; with_reducible rfl
  · go_simp; with_reducible rfl
  refine wpK_take0 (v := ?_) (a' := ?_) 2 rfl (by kernel_rfl) (by kernel_rfl) (by kernel_rfl) (by kernel_rfl) (fun _ _ _ h => h) ?_ ?_ ?_
  rotate_left 2
  · refine .inl ⟨by kernel_rfl, ?_⟩; intro wS hS; clear hS; go_simp; with_reducible rfl
  · go_simp; with_reducible rfl
  refine wpK_take0 (v := ?_) (a' := ?_) 3 rfl (by kernel_rfl) (by kernel_rfl) (by kernel_rfl) (by kernel_rfl) (fun _ _ _ h => h) ?_ ?_ ?_
  rotate_left 2
  · refine .inl ⟨by kernel_rfl, ?_⟩; intro wS hS; clear hS; go_simp; with_reducible rfl
  · go_simp; with_reducible rfl
  refine wpK_end (by kernel_rfl) ?_ _
  go_wp2
  go_ret2
  obtain ⟨_, h2, h3, h4⟩ := ints_own HROW.out.2
  exact ⟨A5, c5, rfl, HAT.out.map, h2, h3, h4, fun ad e => by subst e; have := (HROW.out.2.lt _ rfl).1; omega, below_drew1 HAT.out.below⟩
end Go.Proofs.Ytgdclchpccbifaa
