/-
  CONTRACTS OF lex, II: the longest symbol, keywords, numbers.
-/
import Derived.Laws.Rows
import Derived.Shelf.Abstract
import Derived.ChangeKeysEq
import Derived.Test.YtkogfdbmgdajdaaDoorStrTab
import Derived.Test.YtkogfdbmgdajdaaDoorLexA
namespace Go.Proofs.YtkogfdbmgdajdaaDoor
open Go.ChangeShapes Go.WideShapes Go.ChangeAt Go.RowKit
set_option linter.unusedVariables false

theorem run_index_agg1 {P : Program} (w : World) (t e : TypeId) (n : Nat) (cs : Array Value) (k : IntKind) (i : Nat) (v : Value) {d : TypeDesc} {j : TypeInfo} (h : P.underlying t = some (.array n e)) (hd : P.underlying e = some d)
    (hp : (match d with | .struct _ | .array _ _ => true | _ => false) = false) (hj : P.info? e = some j) (h1 : P.cellsOf e = 1) (hi : i < n) (hv : cs[i]? = some v) :
    (Instr.index t (.agg cs) (.int k i)).run P w = .ok v w := by
  simp [Instr.index, run_underlying h, asIntOf, hi, go_sem, run_sizeOf w hj, run_isAgg_plain hd hp, h1, hv, part]
theorem strTab_block {P : Program} {W : World} {name : String} {ss : List (List UInt8)} {g : Nat} (h : StrTab P W name ss) (hg : P.globalNamed name = some g) :
    ∃ t fr, W.heap[g]? = some (.cells (ss.map fun s => Value.string ⟨s.toArray⟩).toArray t fr) := by
  unfold StrTab World.var? at h
  rw [hg, Option.bind_some] at h
  split at h
  · rename_i cs t fr hb
    injection h with h
    exact ⟨t, fr, by rw [hb, h]⟩
  · cases h
/-- Both tables of lex. -/
def Tabs (w : World) : Prop := StrTab Tryd.prog w "camlet/lex.keywords" Kws ∧ StrTab Tryd.prog w "camlet/lex.symbols" Sgs
theorem Tabs.on {w w' : World} (h : Tabs w) (hb : Below w.heap.size w w') : Tabs w' := ⟨h.1.on hb, h.2.on hb⟩
theorem gKw : Tryd.prog.globalNamed "camlet/lex.keywords" = some 0 := by kernel_rfl
theorem gSg : Tryd.prog.globalNamed "camlet/lex.symbols" = some 1 := by kernel_rfl
theorem sInfo : ∃ j, Tryd.prog.info? 9 = some j := ⟨_, rfl⟩
theorem sCells : Tryd.prog.cellsOf 9 = 1 := by kernel_rfl
theorem kwI : (Tryd.prog.info? 45).map (·.size) = some (Kws.map fun s => Value.string ⟨s.toArray⟩).toArray.size := by kernel_rfl
theorem sgI : (Tryd.prog.info? 46).map (·.size) = some (Sgs.map fun s => Value.string ⟨s.toArray⟩).toArray.size := by kernel_rfl
def mkS (l : List UInt8) : ByteArray := ⟨l.toArray⟩
theorem mkS_size (l : List UInt8) : (mkS l).size = l.length := mk_size l
theorem mkS_list (l : List UInt8) : (mkS l).data.toList = l := rfl
def sgV : Array Value := (Sgs.map fun s => Value.string (mkS s)).toArray
def kwV : Array Value := (Kws.map fun s => Value.string (mkS s)).toArray
theorem sg_small : ∀ t ∈ Sgs, t.length ≤ 2 := by decide
theorem best_len (s : ByteArray) (i : Nat) (k : Nat) : (best s i (Sgs.take k)).length ≤ 2 := by
  rcases (fold_spec (s := s) (i := i) (Sgs.take k) [] rfl).1 with h | h
  · unfold best; rw [h]; exact Nat.zero_le _
  · exact sg_small _ (List.mem_of_mem_take h)
theorem best_step (s : ByteArray) (i k : Nat) (hk : k < Sgs.length) : best s i (Sgs.take (k + 1)) = longer s i (best s i (Sgs.take k)) Sgs[k] := by
  rw [List.take_succ_eq_append_getElem hk, best_snoc]
theorem has_mk (s : ByteArray) (a : Nat) (ha : a ≤ s.size) (l : List UInt8) (b : Bool) (hb : pre s a l = b) (w : World) : Calls Tryd.prog 29 #[.string (s.extract a s.size), .string (mkS l)] w fun e w' => e = .returned (.bool b) ∧ w = w' := by
  subst hb
  exact has_any s a ha (mkS l) w

set_option maxRecDepth 100000 in
theorem symbolAt_any (s : ByteArray) (a : Nat) (ha : a ≤ s.size) (hs : s.size ≤ maxLen) (w : World) (hT : Tabs w) : Calls Tryd.prog 28 #[.string (s.extract a s.size)] w fun e w' => e = .returned (.string (mkS (sy s a))) ∧ w = w' := by
  obtain ⟨tt, fr, hg⟩ := strTab_block hT.2 gSg
  obtain ⟨j, hj⟩ := sInfo
  have HG : Hid (w.heap[1]? = some (.cells sgV tt fr)) := Lib.hid hg
  have HJ := Lib.hid hj
  clear hg hT hj
  unfold maxLen at hs
  go_enter Tryd.func28, Tryd.ntmps28
  go_wp2_with (refine wpList_load_row rfl 46 _ rfl 1 rfl tt sgV fr _ HG.out Tryd.underlying46 rfl sgI ?_)
  go_loop [3, 7] (fun x z => ∃ k : Nat, k ≤ 19 ∧ x = .string (mkS (best s a (Sgs.take k))) ∧ z = .int .i64 k) (fun _ z => 19 - (intOf z).toNat)
  case atStart => exact ⟨0, by omega, rfl, rfl⟩
  case round =>
    obtain ⟨k, hk, rfl, rfl⟩ := hrel
    by_cases hlt : k < 19
    · have hkl : k < Sgs.length := hlt
      have hidx := run_index_agg1 (P := Tryd.prog) w 46 9 19 sgV .i64 k (.string (mkS Sgs[k])) Tryd.underlying46 Tryd.underlying9 rfl HJ.out sCells hlt (by unfold sgV; rw [List.getElem?_toArray, List.getElem?_map, List.getElem?_eq_getElem hkl]; rfl)
      have h2 := best_len s a k
      have h3 : Sgs[k].length ≤ 2 := sg_small _ (List.getElem_mem hkl)
      have HB := Lib.hid (best_step s a k hkl)
      generalize Sgs[k] = t at *
      generalize hb : best s a (Sgs.take k) = b at *
      clear hb
      have e1 := mkS_size b
      have e2 := mkS_size t
      have z1 : (mkS b).size ≤ 2 := by omega
      have z2 : (mkS t).size ≤ 2 := by omega
      by_cases hl : (mkS b).size < (mkS t).size
      · cases hp : pre s a t
        · have HL : Hid (best s a (Sgs.take (k + 1)) = b) := Lib.hid (by rw [HB.out, longer, if_neg (by simp [hp])])
          have HP := Lib.hid hp
          clear hp e1 e2 h2 h3
          go_wp2_with (with_reducible refine (has_mk s a ha t _ HP.out _).mono ?_; rintro e w' ⟨rfl, rfl⟩)
          go_round
          case rel => exact ⟨k + 1, by omega, by rw [HL.out], by go_num⟩
          case measure => simp [intOf]; omega
        · have HL : Hid (best s a (Sgs.take (k + 1)) = t) := Lib.hid (by rw [HB.out, longer, if_pos ⟨by omega, hp⟩])
          have HP := Lib.hid hp
          clear hp e1 e2 h2 h3
          go_wp2_with (with_reducible refine (has_mk s a ha t _ HP.out _).mono ?_; rintro e w' ⟨rfl, rfl⟩)
          go_round
          case rel => exact ⟨k + 1, by omega, by rw [HL.out], by go_num⟩
          case measure => simp [intOf]; omega
      · have HL : Hid (best s a (Sgs.take (k + 1)) = b) := Lib.hid (by rw [HB.out, longer, if_neg (fun h => hl (by omega))])
        clear e1 e2 h2 h3
        go_wp2
        go_round
        case rel => exact ⟨k + 1, by omega, by rw [HL.out], by go_num⟩
        case measure => simp [intOf]; omega
    · obtain rfl : k = 19 := by omega
      go_wp2
      go_ret
      exact ⟨rfl, rfl⟩

theorem kw_small : ∀ t ∈ Kws, t.length ≤ 9 := by decide
theorem kw_has (t : ByteArray) (k : Nat) (hk : k < Kws.length) (h : t.data.toList = Kws[k]) : isKw t.data.toList = true := by
  unfold isKw
  rw [List.contains_iff_mem, h]; exact List.getElem_mem hk
theorem isKeyword_any (t : ByteArray) (w : World) (hT : Tabs w) : Calls Tryd.prog 44 #[.string t] w fun e w' => e = .returned (.bool (isKw t.data.toList)) ∧ w = w' := by
  obtain ⟨tt, fr, hg⟩ := strTab_block hT.1 gKw
  obtain ⟨j, hj⟩ := sInfo
  have HG : Hid (w.heap[0]? = some (.cells kwV tt fr)) := Lib.hid hg
  have HJ := Lib.hid hj
  clear hg hT hj
  go_enter Tryd.func44, Tryd.ntmps44
  go_wp2_with (refine wpList_load_row rfl 45 _ rfl 0 rfl tt kwV fr _ HG.out Tryd.underlying45 rfl kwI ?_)
  go_loop [6] (fun z => ∃ k : Nat, k ≤ 24 ∧ z = .int .i64 k ∧ ∀ i (h : i < Kws.length), i < k → t.data.toList ≠ Kws[i]) (fun z => 24 - (intOf z).toNat)
  case atStart => exact ⟨0, by omega, rfl, fun i _ h => absurd h (Nat.not_lt_zero _)⟩
  case round =>
    obtain ⟨k, hk, rfl, hno⟩ := hrel
    have HN := Lib.hid hno
    clear hno
    by_cases hlt : k < 24
    · have hkl : k < Kws.length := hlt
      have hidx := run_index_agg1 (P := Tryd.prog) w 45 9 24 kwV .i64 k (.string (mkS Kws[k])) Tryd.underlying45 Tryd.underlying9 rfl HJ.out sCells hlt (by unfold kwV; rw [List.getElem?_toArray, List.getElem?_map, List.getElem?_eq_getElem hkl]; rfl)
      by_cases he : t.data.toList = Kws[k]
      · have HB := Lib.hid (kw_has t k hkl he)
        have ht : (t.toList == (mkS Kws[k]).toList) = true := by rw [ByteArray.toList_eq, ByteArray.toList_eq, mkS_list]; simp [he]
        clear he
        go_wp2
        go_ret
        exact ⟨ret_bool HB.out.symm, rfl⟩
      · have ht : (t.toList == (mkS Kws[k]).toList) = false := by rw [ByteArray.toList_eq, ByteArray.toList_eq, mkS_list]; simp [he]
        have HE := Lib.hid he
        clear he
        go_wp2
        go_round
        case rel => exact ⟨k + 1, by omega, by go_num, fun i h hi => if hik : i = k then by subst hik; exact HE.out else HN.out i h (by omega)⟩
        case measure => simp [intOf]; omega
    · obtain rfl : k = 24 := by omega
      have HB : Hid (isKw t.data.toList = false) := Lib.hid (by
        refine Bool.eq_false_iff.2 fun h => ?_
        obtain ⟨i, hi, he⟩ := List.getElem_of_mem (List.contains_iff_mem.1 h)
        exact HN.out i hi hi he.symm)
      go_wp2
      go_ret
      exact ⟨ret_bool HB.out.symm, rfl⟩

/-! ### Numbers -/
def cap (n : Nat) : Nat := min n 1073741825
theorem cap_step (n d : Nat) : cap (10 * n + d) = min (10 * cap n + d) 1073741825 := by unfold cap; omega
theorem numberOf_any (t : ByteArray) (hs : t.size ≤ maxLen) (hd : ∀ k, k < t.size → dg (bt t k) = true) (w : World) : Calls Tryd.prog 32 #[.string t] w fun e w' => e = .returned (.int .i64 (cap (vl t 0 t.size) : Nat)) ∧ w = w' := by
  unfold maxLen at hs
  have HD := Lib.hid hd
  clear hd
  go_enter Tryd.func32, Tryd.ntmps32
  go_wp2
  go_loop [3, 7] (fun x z => ∃ k : Nat, k ≤ t.size ∧ x = .int .i64 (cap (vl t 0 k) : Nat) ∧ z = .int .i64 k) (fun _ z => t.size - (intOf z).toNat)
  case atStart => exact ⟨0, by omega, rfl, rfl⟩
  case round =>
    obtain ⟨k, hk, rfl, rfl⟩ := hrel
    by_cases hlt : k < t.size
    · have h1 := dg_iff.1 (HD.out k hlt)
      rw [bt_in hlt] at h1
      have hc : cap (vl t 0 k) ≤ 1073741825 := Nat.min_le_right _ _
      have HV : Hid (cap (vl t 0 (k + 1)) = min (10 * cap (vl t 0 k) + (t[k].toNat - 48)) 1073741825) := Lib.hid (by rw [← cap_step]; simp only [vl]; rw [Nat.zero_add, bt_in hlt])
      generalize cap (vl t 0 k) = v at *
      go_wp2
      go_round
      case rel => exact ⟨k + 1, by omega, by rw [HV.out]; congr 1; omega, by go_num⟩
      case measure => simp [intOf]; omega
    · obtain rfl : k = t.size := by omega
      go_wp2
      go_ret
      exact ⟨rfl, rfl⟩
end Go.Proofs.YtkogfdbmgdajdaaDoor
