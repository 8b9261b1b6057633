import Derived.Test.YtoopopjcojphaaaGreatDoorQA
import Derived.ChangeArms
import Derived.Test.YtoopopjcojphaaaGreatDoorShelf
import Derived.Test.YtoopopjcojphaaaGreatDoorQF
import Derived.Deep.QuietTactic
import Derived.BigQuiet
import Derived.WalkSpells
import Derived.WalkLawsBesides
import Derived.Outline
import Derived.Deep.LoopGhost
import Derived.Laws.Rows
import Derived.Shelf.Abstract
import Derived.ChangeKeysEq
import Derived.Laws.AppendOwn
import Derived.Laws.Tables
import Derived.Laws.CopyOwn
import Derived.Deep.DeepCutAuto
/-
  A LISTED VARIABLE THAT IS AN ARRAY OF STRINGS. Nothing of the program is named here.
-/
namespace Go.Proofs.YtoopopjcojphaaaGreatDoor
open Go.ChangeShapes Go.WideShapes Go.ChangeAt Go.RowKit
def StrTab (P : Program) (w : World) (name : String) (ss : List (List UInt8)) : Prop := w.var? P name = some (ss.map fun s => Value.string ⟨s.toArray⟩).toArray
theorem cells_of_strs {H : Type} {enc : TypeId × Value → H} {P : Program} {w : World} {base : Nat} {sp : Nat → Bool} {held : Bool} {fuel : Nat} {t e : TypeId} {n : Nat} {cs : List Value} {ss : List (List UInt8)} {p : List MemPlace}
    (ht : P.underlying t = some (.array n e)) (he : P.underlying e = some .string) (hce : P.cellsOf e = 1) (hct : P.cellsOf t = n)
    (h : DataW.trod enc P w base sp held fuel t cs = some (.agg (ss.map fun s => .lit (.string s)), p)) : cs = ss.map fun s => Value.string ⟨s.toArray⟩ := by
  cases fuel with
  | zero => simp [DataW.trod] at h
  | succ fuel =>
    simp only [DataW.trod, ht, hce, hct, Nat.mul_one] at h
    split at h
    · rename_i hl
      obtain ⟨xs, hm, hx⟩ := Option.map_eq_some_iff.1 h
      have hxs : xs.map (·.1) = ss.map fun s => (DataW.lit (.string s) : DataW H) := by
        have := congrArg Prod.fst hx
        simpa using this
      have hxl : xs.length = n := by simpa using Lib.mapM_length hm
      have hzl : ss.length = n := by
        have := congrArg List.length hxs
        simp at this
        omega
      apply List.ext_getElem?
      intro i
      by_cases hi : i < n
      · obtain ⟨b, hb, hf⟩ := Lib.mapM_at hm i i (by simp [hi])
        obtain ⟨s, hc, rfl, _⟩ := DataW.trod_string he hf
        have h1 : cs[i]? = some (.string s) := by
          have := congrArg (·[0]?) hc
          simpa [List.getElem?_take, List.getElem?_drop] using this
        have h2 : (xs.map (·.1))[i]? = some (DataW.lit (.string s.data.toList) : DataW H) := by simp [hb]
        rw [hxs] at h2
        simp only [List.getElem?_map, Option.map_eq_some_iff, DataW.lit.injEq, Lit.string.injEq] at h2
        obtain ⟨z', hz', rfl⟩ := h2
        simp [h1, hz']
      · rw [List.getElem?_eq_none (by omega), List.getElem?_eq_none (by simp; omega)]
    · cases h
theorem laid_strs {P : Program} {W : World} {name : String} {ss : List (List UInt8)} {rest : List (String × DataW Unit)} {ps : List MemPlace} {g : Nat} {t e : TypeId} {n : Nat}
    (hg : P.globalNamed name = some g) (hty : (P.globals[g]?).map (·.type) = some t) (ht : P.underlying t = some (.array n e)) (he : P.underlying e = some .string) (hce : P.cellsOf e = 1) (hct : P.cellsOf t = n)
    (h : DataW.LaidVars P W ((name, .agg (ss.map fun s => .lit (.string s))) :: rest) ps) : StrTab P W name ss := by
  obtain ⟨g', t', cs, fuel, p, q, hg', ht', hvar, hd, _, _⟩ := h
  obtain rfl := Option.some.inj (hg.symm.trans hg')
  obtain rfl := Option.some.inj (hty.symm.trans ht')
  unfold StrTab
  rw [hvar, ← cells_of_strs ht he hce hct hd]
theorem StrTab.on {P : Program} {w w' : World} {name : String} {ss : List (List UInt8)} (h : StrTab P w name ss) (hb : Below w.heap.size w w') : StrTab P w' name ss := by
  unfold StrTab World.var? at *
  cases hg : P.globalNamed name with
  | none => simp [hg] at h
  | some g =>
    simp only [hg, Option.bind_some] at h ⊢
    have hlt : g < w.heap.size := by
      rcases Nat.lt_or_ge g w.heap.size with h' | h'
      · exact h'
      · rw [Array.getElem?_eq_none h'] at h; simp at h
    rw [hb.block g hlt]
    exact h
theorem StrTab.cell {P : Program} {W : World} {name : String} {ss : List (List UInt8)} {g : Nat} (h : StrTab P W name ss) (hg : P.globalNamed name = some g) (i : Nat) (s : List UInt8) (hi : ss[i]? = some s) :
    W.cell? ⟨g, i, none⟩ = some (.string ⟨s.toArray⟩) := by
  have := World.var?_cell hg h i
  rw [this]; simp [hi]
end Go.Proofs.YtoopopjcojphaaaGreatDoor
/-
  CONTRACTS OF lex, I: classes of bytes, blanks, prefixes, what is skipped, the end of a token's number.
-/
namespace Go.Proofs.YtoopopjcojphaaaGreatDoor.Lx
open Go.ChangeShapes Go.WideShapes Go.ChangeAt Go.RowKit
set_option linter.unusedVariables false

theorem cls_arith (c : Nat) : (48 ≤ c ∧ c ≤ 57 → cls c = 1) ∧ (97 ≤ c ∧ c ≤ 122 → cls c = 2) ∧ (65 ≤ c ∧ c ≤ 90 → cls c = 2) ∧ (c = 95 → cls c = 2) ∧ (c = 39 → cls c = 3) ∧
    (¬ (48 ≤ c ∧ c ≤ 57) → ¬ (97 ≤ c ∧ c ≤ 122) → ¬ (65 ≤ c ∧ c ≤ 90) → c ≠ 95 → c ≠ 39 → cls c = 0) := by
  rcases cls_cases c with ⟨h, h1⟩ | ⟨h, h1, h2⟩ | ⟨h, h1⟩ | ⟨h, h1, h2, h3⟩
  · rw [dg_iff] at h1; omega
  · rw [dg_false] at h1; rw [lt_iff] at h2; omega
  · omega
  · rw [dg_false] at h1; rw [lt_false] at h2; omega
theorem classOf_any (c : Nat) (hc : c < 256) (w : World) : Calls Tryz.prog 131 #[.int .u8 c] w fun e w' => e = .returned (.int .i64 (cls c : Nat)) ∧ w = w' := by
  go_enter Tryz.func131, Tryz.ntmps131
  go_wp2
  all_goals go_ret
  all_goals refine ⟨ret_int ?_, rfl⟩
  all_goals have h := cls_arith c
  all_goals first | omega | (simp only [beq_iff_eq, beq_eq_false_iff_ne, ne_eq] at *; omega)
theorem bl_arith (c : Nat) : (c = 32 → bl c = true) ∧ (c = 9 → bl c = true) ∧ (c = 10 → bl c = true) ∧ (c = 13 → bl c = true) ∧ (c ≠ 32 → c ≠ 9 → c ≠ 10 → c ≠ 13 → bl c = false) := by
  refine ⟨fun h => bl_iff.2 (by omega), fun h => bl_iff.2 (by omega), fun h => bl_iff.2 (by omega), fun h => bl_iff.2 (by omega), fun h1 h2 h3 h4 => bl_false.2 (by omega)⟩
theorem isBlank_any (c : Nat) (hc : c < 256) (w : World) : Calls Tryz.prog 134 #[.int .u8 c] w fun e w' => e = .returned (.bool (bl c)) ∧ w = w' := by
  have e : bl c = ((c : Int) == 32 || (c : Int) == 9 || (c : Int) == 10 || (c : Int) == 13) := by
    rw [Bool.eq_iff_iff, bl_iff]; simp; omega
  have H := Lib.hid e
  clear e
  go_enter Tryz.func134, Tryz.ntmps134
  go_wp2
  all_goals go_ret
  all_goals refine ⟨ret_bool ?_, rfl⟩
  all_goals rw [H.out]
  all_goals simp_all
theorem isBlank_is (c : Nat) (hc : c < 256) (b : Bool) (hb : bl c = b) (w : World) : Calls Tryz.prog 134 #[.int .u8 c] w fun e w' => e = .returned (.bool b) ∧ w = w' := by subst hb; exact isBlank_any c hc w
theorem classOf_is (c : Nat) (hc : c < 256) (k : Int) (hk : ((cls c : Nat) : Int) = k) (w : World) : Calls Tryz.prog 131 #[.int .u8 c] w fun e w' => e = .returned (.int .i64 k) ∧ w = w' := by subst hk; exact classOf_any c hc w
theorem size_toList (s : ByteArray) : s.data.toList.length = s.size := by rw [Array.length_toList]; rfl
theorem hasPrefix_pre {s : ByteArray} {a : Nat} (ha : a ≤ s.size) (p : List UInt8) : Lib.hasPrefix (s.extract a s.size).data.toList p = pre s a p := by
  have key : ∀ (p : List UInt8) (a : Nat), a ≤ s.size → p.isPrefixOf (s.data.toList.drop a) = pre s a p := by
    intro p
    induction p with
    | nil => intro a _; simp [pre, List.isPrefixOf]
    | cons c p ih =>
      intro a ha
      by_cases hlt : a < s.size
      · rw [List.drop_eq_getElem_cons (by rw [size_toList]; exact hlt)]
        simp only [List.isPrefixOf, pre]
        rw [ih (a + 1) (by omega), bt_in hlt]
        congr 1
        rw [Bool.eq_iff_iff]
        simp only [beq_iff_eq, decide_eq_true_eq]
        constructor
        · intro h; rw [h]; rfl
        · intro h; exact (UInt8.toNat_inj.1 h).symm
      · rw [List.drop_eq_nil_of_le (by rw [size_toList]; omega)]
        simp only [List.isPrefixOf, pre]
        rw [bt_out hlt, decide_eq_false (by have := UInt8.toNat_lt c; omega)]; rfl
  unfold Lib.hasPrefix
  rw [← key p a ha]
  congr 1
  have e : (s.extract a s.size).data.toList = List.take (s.size - a) (List.drop a s.data.toList) := by simp
  rw [e, List.take_of_length_le (by rw [List.length_drop, size_toList]; omega)]
/-- Does p stand in s at a? -/
theorem has_any (s : ByteArray) (a : Nat) (ha : a ≤ s.size) (p : ByteArray) (w : World) : Calls Tryz.prog 133 #[.string (s.extract a s.size), .string p] w fun e w' => e = .returned (.bool (pre s a p.data.toList)) ∧ w = w' := by
  refine (Tryz.strings_HasPrefix _ _ w).mono fun e w' ⟨he, hw⟩ => ?_
  rw [hasPrefix_pre ha] at he
  exact ⟨he, hw.symm⟩
theorem has_open (s : ByteArray) (a : Nat) (ha : a ≤ s.size) (b : Bool) (hb : opens s a = b) (w : World) : Calls Tryz.prog 133 #[.string (s.extract a s.size), .string ⟨#[40, 42]⟩] w fun e w' => e = .returned (.bool b) ∧ w = w' := by
  subst hb
  refine (has_any s a ha _ w).mono fun e w' ⟨he, hw⟩ => ⟨?_, hw⟩
  rw [he]
  congr 2
  show (decide (bt s a = 40) && (decide (bt s (a + 1) = 42) && true)) = _
  rw [Bool.and_true]; rfl
theorem has_shut (s : ByteArray) (a : Nat) (ha : a ≤ s.size) (b : Bool) (hb : shuts s a = b) (w : World) : Calls Tryz.prog 133 #[.string (s.extract a s.size), .string ⟨#[42, 41]⟩] w fun e w' => e = .returned (.bool b) ∧ w = w' := by
  subst hb
  refine (has_any s a ha _ w).mono fun e w' ⟨he, hw⟩ => ⟨?_, hw⟩
  rw [he]
  congr 2
  show (decide (bt s a = 42) && (decide (bt s (a + 1) = 41) && true)) = _
  rw [Bool.and_true]; rfl

theorem ret_sk {r : Nat × Bool} {x : Nat} {b : Bool} (h : r = (x, b)) : Ending.returned (.tuple #[.int .i64 (x : Nat), .bool b]) = .returned (.tuple #[.int .i64 (r.1 : Nat), .bool r.2]) := by rw [h]
/-- What a state of skip's loop comes to. -/
def skAt (s : ByteArray) (o a d : Nat) : Nat × Bool := if d = 0 then sk s a else if cm s a d = 0 then (o, false) else sk s (cm s a d)
theorem skAt_shut {s : ByteArray} {o a d : Nat} (h : shuts s a = true) (hd : 0 < d) : skAt s o (a + 2) (d - 1) = skAt s o a d := by
  unfold skAt
  rw [if_neg (by omega : d ≠ 0)]
  by_cases h1 : d = 1
  · subst h1
    rw [if_pos rfl, cm_last h, if_neg (by omega)]
  · rw [if_neg (by omega), cm_shut h h1]
theorem skAt_next {s : ByteArray} {o a d : Nat} (hlt : a < s.size) (h1 : opens s a = false) (h2 : shuts s a = false) (hd : 0 < d) : skAt s o (a + 1) d = skAt s o a d := by
  unfold skAt
  rw [if_neg (by omega : d ≠ 0), if_neg (by omega : d ≠ 0), cm_next hlt h1 h2]
theorem skAt_more {s : ByteArray} {o a d : Nat} (h1 : opens s a = true) (hd : 0 < d) : skAt s o (a + 2) (d + 1) = skAt s o a d := by
  unfold skAt
  rw [if_neg (by omega : d + 1 ≠ 0), if_neg (by omega : d ≠ 0), cm_open h1]
theorem skAt_open {s : ByteArray} {o a : Nat} (h : opens s a = true) : skAt s a (a + 2) 1 = skAt s o a 0 := by
  unfold skAt
  rw [if_neg (by omega), if_pos rfl]
  by_cases hz : cm s (a + 2) 1 = 0
  · rw [if_pos hz, sk_open h hz]
  · rw [if_neg hz, sk_over h hz]
theorem skip_any (s : ByteArray) (i : Nat) (hi : i ≤ s.size) (hs : s.size ≤ maxLen) (w : World) : Calls Tryz.prog 114 #[.string s, .int .i64 i] w fun e w' => e = .returned (.tuple #[.int .i64 ((sk s i).1 : Nat), .bool (sk s i).2]) ∧ w = w' := by
  have hs' := hs
  unfold maxLen at hs
  generalize hr : sk s i = r
  have HR := Lib.hid hr
  clear hr
  go_enter Tryz.func114, Tryz.ntmps114
  go_wp2
  go_step3
  go_wp2
  go_step3
  go_wp2
  go_loopg [1, 6, 7] (s.size - i) (fun k x y z wr => ∃ a o d : Nat, a ≤ s.size ∧ d ≤ a ∧ k = s.size - a ∧ x = .int .i64 a ∧ y = .int .i64 o ∧ z = .int .i64 d ∧ skAt s o a d = r ∧ w = wr)
  case atStart => exact ⟨i, 0, 0, hi, Nat.zero_le _, rfl, rfl, rfl, rfl, HR.out, rfl⟩
  case round =>
    obtain ⟨a, o, d, ha, hd, rfl, rfl, rfl, rfl, h, rfl⟩ := hrel
    have H := Lib.hid h
    clear h
    by_cases hlt : a < s.size
    · cases ho : opens s a
      · have HO := Lib.hid ho
        clear ho
        by_cases hd0 : 0 < d
        · cases hsh : shuts s a
          · have HS := Lib.hid hsh
            clear hsh
            go_wp2_with (first | ((with_reducible refine (has_open s a ha _ HO.out _).mono ?_); rintro e w' ⟨rfl, rfl⟩) | ((with_reducible refine (has_shut s a ha _ HS.out _).mono ?_); rintro e w' ⟨rfl, rfl⟩))
            go_roundg (s.size - (a + 1))
            case rel => exact ⟨a + 1, o, d, by omega, by omega, rfl, by go_num, rfl, rfl, (skAt_next hlt HO.out HS.out hd0).trans H.out, rfl⟩
            case measure => omega
          · have HS := Lib.hid hsh
            clear hsh
            have h2 := shuts_lt HS.out
            go_wp2_with (first | ((with_reducible refine (has_open s a ha _ HO.out _).mono ?_); rintro e w' ⟨rfl, rfl⟩) | ((with_reducible refine (has_shut s a ha _ HS.out _).mono ?_); rintro e w' ⟨rfl, rfl⟩))
            go_roundg (s.size - (a + 2))
            case rel => exact ⟨a + 2, o, d - 1, by omega, by omega, rfl, by go_num, rfl, by congr 1; omega, (skAt_shut HS.out hd0).trans H.out, rfl⟩
            case measure => omega
        · obtain rfl : d = 0 := by omega
          have hc := bt_lt hlt
          cases hb : bl (bt s a)
          · have HB := Lib.hid (bt_in hlt ▸ hb)
            have hb' := Lib.hid hb
            clear hb
            go_wp2_with (first | ((with_reducible refine (has_open s a ha _ HO.out _).mono ?_); rintro e w' ⟨rfl, rfl⟩) | (go_at_call 134; refine (isBlank_is _ (UInt8.toNat_lt _) _ HB.out _).mono ?_; rintro e w' ⟨rfl, rfl⟩))
            try rw [Exit.noGoto_ret]
            go_ret2
            exact ⟨ret_sk (by rw [← H.out, skAt, if_pos rfl, sk_stop hb'.out HO.out]), rfl⟩
          · have HB := Lib.hid (bt_in hlt ▸ hb)
            have hb' := Lib.hid hb
            clear hb
            go_wp2_with (first | ((with_reducible refine (has_open s a ha _ HO.out _).mono ?_); rintro e w' ⟨rfl, rfl⟩) | (go_at_call 134; refine (isBlank_is _ (UInt8.toNat_lt _) _ HB.out _).mono ?_; rintro e w' ⟨rfl, rfl⟩))
            go_roundg (s.size - (a + 1))
            case rel => exact ⟨a + 1, o, 0, by omega, by omega, rfl, by go_num, rfl, rfl, by rw [← H.out, skAt, if_pos rfl, skAt, if_pos rfl, sk_blank hb'.out], rfl⟩
            case measure => omega
      · have HO := Lib.hid ho
        clear ho
        have h2 := opens_lt HO.out
        by_cases hd0 : 0 < d
        · go_wp2_with (first | ((with_reducible refine (has_open s a ha _ HO.out _).mono ?_); rintro e w' ⟨rfl, rfl⟩))
          go_roundg (s.size - (a + 2))
          case rel => exact ⟨a + 2, o, d + 1, by omega, by omega, rfl, by go_num, rfl, by go_num, (skAt_more HO.out hd0).trans H.out, rfl⟩
          case measure => omega
        · obtain rfl : d = 0 := by omega
          go_wp2_with (first | ((with_reducible refine (has_open s a ha _ HO.out _).mono ?_); rintro e w' ⟨rfl, rfl⟩))
          go_roundg (s.size - (a + 2))
          case rel => exact ⟨a + 2, a, 1, by omega, by omega, rfl, by go_num, rfl, rfl, (skAt_open HO.out).trans H.out, rfl⟩
          case measure => omega
    · obtain rfl : a = s.size := by omega
      by_cases hd0 : 0 < d
      · go_wp2
        try rw [Exit.noGoto_ret]
        go_ret2
        exact ⟨ret_sk (by rw [← H.out, skAt, if_neg (by omega), if_pos (cm_out hlt)]), rfl⟩
      · obtain rfl : d = 0 := by omega
        go_wp2
        try rw [Exit.noGoto_ret]
        go_ret2
        exact ⟨ret_sk (by rw [← H.out, skAt, if_pos rfl, sk_end hlt]), rfl⟩
end Go.Proofs.YtoopopjcojphaaaGreatDoor.Lx
/-
  CONTRACTS OF lex, II: the longest symbol, keywords, numbers.
-/
namespace Go.Proofs.YtoopopjcojphaaaGreatDoor.Lx
open Go.ChangeShapes Go.WideShapes Go.ChangeAt Go.RowKit
set_option linter.unusedVariables false
set_option maxRecDepth 100000

theorem run_index_agg1 {P : Program} (w : World) (t e : TypeId) (n : Nat) (cs : Array Value) (k : IntKind) (i : Nat) (v : Value) {d : TypeDesc} {j : TypeInfo} (h : P.underlying t = some (.array n e)) (hd : P.underlying e = some d)
    (hp : (match d with | .struct _ | .array _ _ => true | _ => false) = false) (hj : P.info? e = some j) (h1 : P.cellsOf e = 1) (hi : i < n) (hv : cs[i]? = some v) :
    (Instr.index t (.agg cs) (.int k i)).run P w = .ok v w := by
  simp [Instr.index, run_underlying h, asIntOf, hi, go_sem, run_sizeOf w hj, run_isAgg_plain hd hp, h1, hv, part]
theorem strTab_block {P : Program} {W : World} {name : String} {ss : List (List UInt8)} {g : Nat} (h : StrTab P W name ss) (hg : P.globalNamed name = some g) :
    ∃ t fr, W.heap[g]? = some (.cells (ss.map fun s => Value.string ⟨s.toArray⟩).toArray t fr) := by
  unfold StrTab World.var? at h
  rw [hg, Option.bind_some] at h
  split at h
  · rename_i cs t fr hb
    injection h with h
    exact ⟨t, fr, by rw [hb, h]⟩
  · cases h
/-- Both tables of lex. -/
def Tabs (w : World) : Prop := StrTab Tryz.prog w "camlet/lex.keywords" Kws ∧ StrTab Tryz.prog w "camlet/lex.symbols" Sgs
theorem Tabs.on {w w' : World} (h : Tabs w) (hb : Below w.heap.size w w') : Tabs w' := ⟨h.1.on hb, h.2.on hb⟩
theorem gKw : Tryz.prog.globalNamed "camlet/lex.keywords" = some 4 := by kernel_rfl
theorem gSg : Tryz.prog.globalNamed "camlet/lex.symbols" = some 1 := by kernel_rfl
theorem sInfo : ∃ j, Tryz.prog.info? 9 = some j := Option.isSome_iff_exists.1 (by kernel_rfl)
theorem sCells : Tryz.prog.cellsOf 9 = 1 := by kernel_rfl
theorem kwI : (Tryz.prog.info? 201).map (·.size) = some (Kws.map fun s => Value.string ⟨s.toArray⟩).toArray.size := by kernel_rfl
theorem sgI : (Tryz.prog.info? 197).map (·.size) = some (Sgs.map fun s => Value.string ⟨s.toArray⟩).toArray.size := by kernel_rfl
def mkS (l : List UInt8) : ByteArray := ⟨l.toArray⟩
theorem mkS_size (l : List UInt8) : (mkS l).size = l.length := mk_size l
theorem mkS_list (l : List UInt8) : (mkS l).data.toList = l := rfl
def sgV : Array Value := (Sgs.map fun s => Value.string (mkS s)).toArray
def kwV : Array Value := (Kws.map fun s => Value.string (mkS s)).toArray
theorem sg_small : ∀ t ∈ Sgs, t.length ≤ 2 := by decide
theorem best_len (s : ByteArray) (i : Nat) (k : Nat) : (best s i (Sgs.take k)).length ≤ 2 := by
  rcases (fold_spec (s := s) (i := i) (Sgs.take k) [] rfl).1 with h | h
  · unfold best; rw [h]; exact Nat.zero_le _
  · exact sg_small _ (List.mem_of_mem_take h)
theorem best_step (s : ByteArray) (i k : Nat) (hk : k < Sgs.length) : best s i (Sgs.take (k + 1)) = longer s i (best s i (Sgs.take k)) Sgs[k] := by
  rw [List.take_succ_eq_append_getElem hk, best_snoc]
theorem has_mk (s : ByteArray) (a : Nat) (ha : a ≤ s.size) (l : List UInt8) (b : Bool) (hb : pre s a l = b) (w : World) : Calls Tryz.prog 133 #[.string (s.extract a s.size), .string (mkS l)] w fun e w' => e = .returned (.bool b) ∧ w = w' := by
  subst hb
  exact has_any s a ha (mkS l) w

set_option maxRecDepth 100000 in
theorem symbolAt_any (s : ByteArray) (a : Nat) (ha : a ≤ s.size) (hs : s.size ≤ maxLen) (w : World) (hT : Tabs w) : Calls Tryz.prog 132 #[.string (s.extract a s.size)] w fun e w' => e = .returned (.string (mkS (sy s a))) ∧ w = w' := by
  obtain ⟨tt, fr, hg⟩ := strTab_block hT.2 gSg
  obtain ⟨j, hj⟩ := sInfo
  have HG : Hid (w.heap[1]? = some (.cells sgV tt fr)) := Lib.hid hg
  have HJ := Lib.hid hj
  clear hg hT hj
  unfold maxLen at hs
  go_enter Tryz.func132, Tryz.ntmps132
  go_wp2_with (refine wpList_load_row rfl 197 _ rfl 1 rfl tt sgV fr _ HG.out Tryz.underlying197 rfl sgI ?_)
  go_loop [3, 7] (fun x z => ∃ k : Nat, k ≤ 19 ∧ x = .string (mkS (best s a (Sgs.take k))) ∧ z = .int .i64 k) (fun _ z => 19 - (intOf z).toNat)
  case atStart => exact ⟨0, by omega, rfl, rfl⟩
  case round =>
    obtain ⟨k, hk, rfl, rfl⟩ := hrel
    by_cases hlt : k < 19
    · have hkl : k < Sgs.length := hlt
      have hidx := run_index_agg1 (P := Tryz.prog) w 197 9 19 sgV .i64 k (.string (mkS Sgs[k])) Tryz.underlying197 Tryz.underlying9 rfl HJ.out sCells hlt (by unfold sgV; rw [List.getElem?_toArray, List.getElem?_map, List.getElem?_eq_getElem hkl]; rfl)
      have h2 := best_len s a k
      have h3 : Sgs[k].length ≤ 2 := sg_small _ (List.getElem_mem hkl)
      have HB := Lib.hid (best_step s a k hkl)
      generalize Sgs[k] = t at *
      generalize hb : best s a (Sgs.take k) = b at *
      clear hb
      have e1 := mkS_size b
      have e2 := mkS_size t
      have z1 : (mkS b).size ≤ 2 := by omega
      have z2 : (mkS t).size ≤ 2 := by omega
      by_cases hl : (mkS b).size < (mkS t).size
      · cases hp : pre s a t
        · have HL : Hid (best s a (Sgs.take (k + 1)) = b) := Lib.hid (by rw [HB.out, longer, if_neg (by simp [hp])])
          have HP := Lib.hid hp
          clear hp e1 e2 h2 h3
          go_wp2_with (with_reducible refine (has_mk s a ha t _ HP.out _).mono ?_; rintro e w' ⟨rfl, rfl⟩)
          go_round
          case rel => exact ⟨k + 1, by omega, by rw [HL.out], by go_num⟩
          case measure => simp [intOf]; omega
        · have HL : Hid (best s a (Sgs.take (k + 1)) = t) := Lib.hid (by rw [HB.out, longer, if_pos ⟨by omega, hp⟩])
          have HP := Lib.hid hp
          clear hp e1 e2 h2 h3
          go_wp2_with (with_reducible refine (has_mk s a ha t _ HP.out _).mono ?_; rintro e w' ⟨rfl, rfl⟩)
          go_round
          case rel => exact ⟨k + 1, by omega, by rw [HL.out], by go_num⟩
          case measure => simp [intOf]; omega
      · have HL : Hid (best s a (Sgs.take (k + 1)) = b) := Lib.hid (by rw [HB.out, longer, if_neg (fun h => hl (by omega))])
        clear e1 e2 h2 h3
        go_wp2
        go_round
        case rel => exact ⟨k + 1, by omega, by rw [HL.out], by go_num⟩
        case measure => simp [intOf]; omega
    · obtain rfl : k = 19 := by omega
      go_wp2
      go_ret
      exact ⟨rfl, rfl⟩

theorem kw_small : ∀ t ∈ Kws, t.length ≤ 9 := by decide
theorem kw_has (t : ByteArray) (k : Nat) (hk : k < Kws.length) (h : t.data.toList = Kws[k]) : isKw t.data.toList = true := by
  unfold isKw
  rw [List.contains_iff_mem, h]; exact List.getElem_mem hk
theorem isKeyword_any (t : ByteArray) (w : World) (hT : Tabs w) : Calls Tryz.prog 154 #[.string t] w fun e w' => e = .returned (.bool (isKw t.data.toList)) ∧ w = w' := by
  obtain ⟨tt, fr, hg⟩ := strTab_block hT.1 gKw
  obtain ⟨j, hj⟩ := sInfo
  have HG : Hid (w.heap[4]? = some (.cells kwV tt fr)) := Lib.hid hg
  have HJ := Lib.hid hj
  clear hg hT hj
  go_enter Tryz.func154, Tryz.ntmps154
  go_wp2_with (refine wpList_load_row rfl 201 _ rfl 4 rfl tt kwV fr _ HG.out Tryz.underlying201 rfl kwI ?_)
  go_loop [6] (fun z => ∃ k : Nat, k ≤ 24 ∧ z = .int .i64 k ∧ ∀ i (h : i < Kws.length), i < k → t.data.toList ≠ Kws[i]) (fun z => 24 - (intOf z).toNat)
  case atStart => exact ⟨0, by omega, rfl, fun i _ h => absurd h (Nat.not_lt_zero _)⟩
  case round =>
    obtain ⟨k, hk, rfl, hno⟩ := hrel
    have HN := Lib.hid hno
    clear hno
    by_cases hlt : k < 24
    · have hkl : k < Kws.length := hlt
      have hidx := run_index_agg1 (P := Tryz.prog) w 201 9 24 kwV .i64 k (.string (mkS Kws[k])) Tryz.underlying201 Tryz.underlying9 rfl HJ.out sCells hlt (by unfold kwV; rw [List.getElem?_toArray, List.getElem?_map, List.getElem?_eq_getElem hkl]; rfl)
      by_cases he : t.data.toList = Kws[k]
      · have HB := Lib.hid (kw_has t k hkl he)
        have ht : (t.toList == (mkS Kws[k]).toList) = true := by rw [ByteArray.toList_eq, ByteArray.toList_eq, mkS_list]; simp [he]
        clear he
        go_wp2
        go_ret
        exact ⟨ret_bool HB.out.symm, rfl⟩
      · have ht : (t.toList == (mkS Kws[k]).toList) = false := by rw [ByteArray.toList_eq, ByteArray.toList_eq, mkS_list]; simp [he]
        have HE := Lib.hid he
        clear he
        go_wp2
        go_round
        case rel => exact ⟨k + 1, by omega, by go_num, fun i h hi => if hik : i = k then by subst hik; exact HE.out else HN.out i h (by omega)⟩
        case measure => simp [intOf]; omega
    · obtain rfl : k = 24 := by omega
      have HB : Hid (isKw t.data.toList = false) := Lib.hid (by
        refine Bool.eq_false_iff.2 fun h => ?_
        obtain ⟨i, hi, he⟩ := List.getElem_of_mem (List.contains_iff_mem.1 h)
        exact HN.out i hi hi he.symm)
      go_wp2
      go_ret
      exact ⟨ret_bool HB.out.symm, rfl⟩

/-! ### Numbers -/
def cap (n : Nat) : Nat := min n 1073741825
theorem cap_step (n d : Nat) : cap (10 * n + d) = min (10 * cap n + d) 1073741825 := by unfold cap; omega
theorem numberOf_any (t : ByteArray) (hs : t.size ≤ maxLen) (hd : ∀ k, k < t.size → dg (bt t k) = true) (w : World) : Calls Tryz.prog 136 #[.string t] w fun e w' => e = .returned (.int .i64 (cap (vl t 0 t.size) : Nat)) ∧ w = w' := by
  unfold maxLen at hs
  have HD := Lib.hid hd
  clear hd
  go_enter Tryz.func136, Tryz.ntmps136
  go_wp2
  go_loop [3, 7] (fun x z => ∃ k : Nat, k ≤ t.size ∧ x = .int .i64 (cap (vl t 0 k) : Nat) ∧ z = .int .i64 k) (fun _ z => t.size - (intOf z).toNat)
  case atStart => exact ⟨0, by omega, rfl, rfl⟩
  case round =>
    obtain ⟨k, hk, rfl, rfl⟩ := hrel
    by_cases hlt : k < t.size
    · have h1 := dg_iff.1 (HD.out k hlt)
      rw [bt_in hlt] at h1
      have hc : cap (vl t 0 k) ≤ 1073741825 := Nat.min_le_right _ _
      have HV : Hid (cap (vl t 0 (k + 1)) = min (10 * cap (vl t 0 k) + (t[k].toNat - 48)) 1073741825) := Lib.hid (by rw [← cap_step]; simp only [vl]; rw [Nat.zero_add, bt_in hlt])
      generalize cap (vl t 0 k) = v at *
      go_wp2
      go_round
      case rel => exact ⟨k + 1, by omega, by rw [HV.out]; congr 1; omega, by go_num⟩
      case measure => simp [intOf]; omega
    · obtain rfl : k = t.size := by omega
      go_wp2
      go_ret
      exact ⟨rfl, rfl⟩
end Go.Proofs.YtoopopjcojphaaaGreatDoor.Lx
/-
  CONTRACTS OF lex, III: where a token ends; its kind; the token.
-/
namespace Go.Proofs.YtoopopjcojphaaaGreatDoor.Lx
open Go.ChangeShapes Go.WideShapes Go.ChangeAt Go.RowKit
set_option linter.unusedVariables false
set_option maxRecDepth 100000
theorem endFinder_any (s : ByteArray) (w : World) : Calls Tryz.prog 113 #[.string s] w fun e w' => e = .returned (.func (.func 130) #[] #[.pointer (some ⟨w.heap.size, 0, none⟩)]) ∧ w' = w.alloc (.cells #[.string s] 9) := by
  go_enter Tryz.func113, Tryz.ntmps113
  go_wp2
  go_ret
  exact ⟨rfl, rfl⟩
theorem cls_is {s : ByteArray} {k : Nat} (h : k < s.size) (n : Nat) (hn : cls (bt s k) = n) : ((cls s[k].toNat : Nat) : Int) = n := by rw [← bt_in h, hn]
theorem u8_lt (c : UInt8) : c.toNat < 256 := UInt8.toNat_lt c
theorem symbolAt_is (s : ByteArray) (a : Nat) (ha : a ≤ s.size) (hs : s.size ≤ maxLen) (w : World) (hT : Tabs w) (y : ByteArray) (h : mkS (sy s a) = y) : Calls Tryz.prog 132 #[.string (s.extract a s.size)] w fun e w' => e = .returned (.string y) ∧ w = w' := by
  subst h; exact symbolAt_any s a ha hs w hT
theorem sy_len (s : ByteArray) (a : Nat) : (sy s a).length ≤ 2 := best_len s a 19
theorem sy_val (s : ByteArray) (a : Nat) (ha : a ≤ s.size) : ∃ t : ByteArray, a + t.size ≤ s.size ∧ Hid (mkS (sy s a) = t) ∧ Hid (t.size = (sy s a).length) := ⟨_, by rw [mkS_size]; exact pre_size ha (sy_spec s a).2.1, Lib.hid rfl, Lib.hid (mkS_size _)⟩
def EndPost (s : ByteArray) (a : Nat) (w : World) (e : Ending) (w' : World) : Prop := e = .returned (.int .i64 (tokEnd s a : Nat)) ∧ w = w'
set_option maxHeartbeats 1000000 in
theorem end_sign (s : ByteArray) (a B : Nat) (ha : a < s.size) (hs : s.size ≤ maxLen) (w : World) (hT : Tabs w) (hc : w.cell? ⟨B, 0, none⟩ = some (.string s)) (h1 : dg (bt s a) = false) (h2 : lt (bt s a) = false) (h3 : ¬ (bt s a = 39 ∧ lt (bt s (a + 1)) = true)) :
    Calls Tryz.prog 130 #[.int .i64 a, .pointer (some ⟨B, 0, none⟩)] w (EndPost s a w) := by
  have hs' := hs
  unfold maxLen at hs
  have HT := Lib.hid hT
  have HE : Hid (tokEnd s a = a + (sy s a).length) := Lib.hid (by unfold tokEnd; rw [if_neg (by simp [h1]), if_neg (fun h => h.elim (fun h => by rw [h2] at h; cases h) h3)])
  obtain ⟨t, hz', HY, HZ⟩ := sy_val s a (by omega)
  rcases cls_cases (bt s a) with ⟨hk, hb⟩ | ⟨hk, hb, hb2⟩ | ⟨hk, hb⟩ | ⟨hk, _⟩
  · rw [h1] at hb; cases hb
  · rw [h2] at hb2; cases hb2
  · have HC : Hid (((cls s[a].toNat : Nat) : Int) = 3) := Lib.hid (cls_is ha 3 hk)
    have hnl : ¬ lt (bt s (a + 1)) = true := fun h => h3 ⟨hb, h⟩
    clear hT h1 h2 h3 hk hb
    by_cases hn : a + 1 < s.size
    · obtain ⟨x, hx, hx2⟩ : ∃ x : Int, ((cls s[a + 1].toNat : Nat) : Int) = x ∧ x ≠ 2 := ⟨_, rfl, fun h => by
        rcases cls_cases (bt s (a + 1)) with ⟨hk, hb⟩ | ⟨hk, hb, hb2⟩ | ⟨hk, hb⟩ | ⟨hk, hb⟩
        · rw [← bt_in hn, hk] at h; omega
        · exact hnl hb2
        · rw [← bt_in hn, hk] at h; omega
        · rw [← bt_in hn, hk] at h; omega⟩
      have HX := Lib.hid hx
      have hx3 : (x != 2) = true := by simpa using hx2
      clear hnl hx hx2
      go_enter Tryz.func130, Tryz.ntmps130
      go_wp2
      go_step3
      go_wp2_with (first | ((with_reducible refine (classOf_is _ (u8_lt _) _ HC.out _).mono ?_); rintro e w' ⟨rfl, rfl⟩) | ((with_reducible refine (classOf_is _ (u8_lt _) _ HX.out _).mono ?_); rintro e w' ⟨rfl, rfl⟩) | (go_at_call 132; refine (symbolAt_is s a (by omega) hs' _ HT.out t HY.out).mono ?_; rintro e w' ⟨rfl, rfl⟩))
      try rw [Exit.noGoto_ret]
      go_ret
      exact ⟨ret_int (by have := HZ.out; rw [HE.out]; omega), rfl⟩
    · clear hnl
      go_enter Tryz.func130, Tryz.ntmps130
      go_wp2
      go_step3
      go_wp2_with (first | ((with_reducible refine (classOf_is _ (u8_lt _) _ HC.out _).mono ?_); rintro e w' ⟨rfl, rfl⟩) | (go_at_call 132; refine (symbolAt_is s a (by omega) hs' _ HT.out t HY.out).mono ?_; rintro e w' ⟨rfl, rfl⟩))
      try rw [Exit.noGoto_ret]
      go_ret
      exact ⟨ret_int (by have := HZ.out; rw [HE.out]; omega), rfl⟩
  · have HC : Hid (((cls s[a].toNat : Nat) : Int) = 0) := Lib.hid (cls_is ha 0 hk)
    clear hT h1 h2 h3 hk
    go_enter Tryz.func130, Tryz.ntmps130
    go_wp2
    go_step3
    go_wp2_with (first | ((with_reducible refine (classOf_is _ (u8_lt _) _ HC.out _).mono ?_); rintro e w' ⟨rfl, rfl⟩) | (go_at_call 132; refine (symbolAt_is s a (by omega) hs' _ HT.out t HY.out).mono ?_; rintro e w' ⟨rfl, rfl⟩))
    try rw [Exit.noGoto_ret]
    go_ret
    exact ⟨ret_int (by have := HZ.out; rw [HE.out]; omega), rfl⟩

theorem dig_cls {c : Nat} (h : dg c = true) : cls c = 1 := by unfold cls; rw [if_pos h]
theorem wc_cls {c : Nat} (h : wc c = true) : cls c = 1 ∨ cls c = 2 ∨ cls c = 3 := by
  rcases cls_cases c with ⟨h1, _⟩ | ⟨h1, _⟩ | ⟨h1, _⟩ | ⟨h1, h2, h3, h4⟩
  · exact .inl h1
  · exact .inr (.inl h1)
  · exact .inr (.inr h1)
  · rw [wc_false.2 ⟨h2, h3, h4⟩] at h; cases h
theorem wc_cls0 {c : Nat} (h : wc c = false) : cls c = 0 := by
  obtain ⟨h1, h2, h3⟩ := wc_false.1 h
  unfold cls; rw [if_neg (by simp [h1]), if_neg (by simp [h2]), if_neg h3]
theorem dig_cls0 {c : Nat} (h : dg c = false) : cls c = 0 ∨ cls c = 2 ∨ cls c = 3 := by
  rcases cls_cases c with ⟨_, h1⟩ | ⟨h1, _⟩ | ⟨h1, _⟩ | ⟨h1, _⟩
  · rw [h1] at h; cases h
  · exact .inr (.inl h1)
  · exact .inr (.inr h1)
  · exact .inl h1
set_option maxHeartbeats 1000000 in
theorem end_digits (s : ByteArray) (a B : Nat) (ha : a < s.size) (hs : s.size ≤ maxLen) (w : World) (hc : w.cell? ⟨B, 0, none⟩ = some (.string s)) (h1 : dg (bt s a) = true) :
    Calls Tryz.prog 130 #[.int .i64 a, .pointer (some ⟨B, 0, none⟩)] w (EndPost s a w) := by
  have hs' := hs
  unfold maxLen at hs
  have HE : Hid (tokEnd s a = rend dg s (a + 1)) := Lib.hid (by unfold tokEnd; rw [if_pos h1])
  have HC : Hid (((cls s[a].toNat : Nat) : Int) = 1) := Lib.hid (cls_is ha 1 (dig_cls h1))
  clear h1
  go_enter Tryz.func130, Tryz.ntmps130
  go_wp2
  go_step3
  go_wp2_with (first | ((with_reducible refine (classOf_is _ (u8_lt _) _ HC.out _).mono ?_); rintro e w' ⟨rfl, rfl⟩))
  go_step3
  go_wp2
  go_loopg [5] (s.size - (a + 1)) (fun n x wr => ∃ k : Nat, a + 1 ≤ k ∧ k ≤ s.size ∧ n = s.size - k ∧ x = .int .i64 k ∧ rend dg s k = tokEnd s a ∧ w = wr)
  case atStart => exact ⟨a + 1, by omega, by omega, rfl, by go_num, HE.out.symm, rfl⟩
  case round =>
    obtain ⟨k, hak, hk, rfl, rfl, hr, rfl⟩ := hrel
    have HR := Lib.hid hr
    clear hr
    by_cases hlt : k < s.size
    · cases hd : dg (bt s k)
      · have HX : Hid (tokEnd s a = k) := Lib.hid (by rw [← HR.out, rend_no dg256 hd])
        rcases dig_cls0 hd with hx | hx | hx
        · have HY : Hid (((cls s[k].toNat : Nat) : Int) = 0) := Lib.hid (cls_is hlt 0 hx)
          clear hd hx
          go_wp2_with (first | ((with_reducible refine (classOf_is _ (u8_lt _) _ HY.out _).mono ?_); rintro e w' ⟨rfl, rfl⟩))
          try rw [Exit.noGoto_ret]
          go_ret
          exact ⟨ret_int (by rw [HX.out]), rfl⟩
        · have HY : Hid (((cls s[k].toNat : Nat) : Int) = 2) := Lib.hid (cls_is hlt 2 hx)
          clear hd hx
          go_wp2_with (first | ((with_reducible refine (classOf_is _ (u8_lt _) _ HY.out _).mono ?_); rintro e w' ⟨rfl, rfl⟩))
          try rw [Exit.noGoto_ret]
          go_ret
          exact ⟨ret_int (by rw [HX.out]), rfl⟩
        · have HY : Hid (((cls s[k].toNat : Nat) : Int) = 3) := Lib.hid (cls_is hlt 3 hx)
          clear hd hx
          go_wp2_with (first | ((with_reducible refine (classOf_is _ (u8_lt _) _ HY.out _).mono ?_); rintro e w' ⟨rfl, rfl⟩))
          try rw [Exit.noGoto_ret]
          go_ret
          exact ⟨ret_int (by rw [HX.out]), rfl⟩
      · have HY : Hid (((cls s[k].toNat : Nat) : Int) = 1) := Lib.hid (cls_is hlt 1 (dig_cls hd))
        have HD := Lib.hid hd
        clear hd
        go_wp2_with (first | ((with_reducible refine (classOf_is _ (u8_lt _) _ HY.out _).mono ?_); rintro e w' ⟨rfl, rfl⟩))
        go_roundg (s.size - (k + 1))
        case rel => exact ⟨k + 1, by omega, by omega, rfl, by go_num, by rw [← HR.out, ← rend_yes dg256 HD.out], rfl⟩
        case measure => omega
    · obtain rfl : k = s.size := by omega
      have HX : Hid (tokEnd s a = s.size) := Lib.hid (by rw [← HR.out, rend_no dg256 (by rw [bt_out hlt]; rfl)])
      go_wp2
      try rw [Exit.noGoto_ret]
      go_ret
      exact ⟨ret_int (by rw [HX.out]), rfl⟩
set_option maxHeartbeats 1000000 in
theorem end_letters (s : ByteArray) (a B : Nat) (ha : a < s.size) (hs : s.size ≤ maxLen) (w : World) (hc : w.cell? ⟨B, 0, none⟩ = some (.string s)) (h0 : dg (bt s a) = false) (h1 : lt (bt s a) = true) :
    Calls Tryz.prog 130 #[.int .i64 a, .pointer (some ⟨B, 0, none⟩)] w (EndPost s a w) := by
  have hs' := hs
  unfold maxLen at hs
  have HE : Hid (tokEnd s a = rend wc s (a + 1)) := Lib.hid (by unfold tokEnd; rw [if_neg (by simp [h0]), if_pos (.inl h1)])
  have HC : Hid (((cls s[a].toNat : Nat) : Int) = 2) := Lib.hid (cls_is ha 2 (by unfold cls; rw [if_neg (by simp [h0]), if_pos h1]))
  clear h0 h1
  go_enter Tryz.func130, Tryz.ntmps130
  go_wp2
  go_step3
  go_wp2_with (first | ((with_reducible refine (classOf_is _ (u8_lt _) _ HC.out _).mono ?_); rintro e w' ⟨rfl, rfl⟩))
  go_step3
  go_wp2
  go_loopg [5] (s.size - (a + 1)) (fun n x wr => ∃ k : Nat, a + 1 ≤ k ∧ k ≤ s.size ∧ n = s.size - k ∧ x = .int .i64 k ∧ rend wc s k = tokEnd s a ∧ w = wr)
  case atStart => exact ⟨a + 1, by omega, by omega, rfl, by go_num, HE.out.symm, rfl⟩
  case round =>
    obtain ⟨k, hak, hk, rfl, rfl, hr, rfl⟩ := hrel
    have HR := Lib.hid hr
    clear hr
    by_cases hlt : k < s.size
    · cases hd : wc (bt s k)
      · have HX : Hid (tokEnd s a = k) := Lib.hid (by rw [← HR.out, rend_no wc256 hd])
        have HY : Hid (((cls s[k].toNat : Nat) : Int) = 0) := Lib.hid (cls_is hlt 0 (wc_cls0 hd))
        clear hd
        go_wp2_with (first | ((with_reducible refine (classOf_is _ (u8_lt _) _ HY.out _).mono ?_); rintro e w' ⟨rfl, rfl⟩))
        try rw [Exit.noGoto_ret]
        go_ret
        exact ⟨ret_int (by rw [HX.out]), rfl⟩
      · have HD := Lib.hid hd
        rcases wc_cls hd with hx | hx | hx
        · have HY : Hid (((cls s[k].toNat : Nat) : Int) = 1) := Lib.hid (cls_is hlt 1 hx)
          clear hd hx
          go_wp2_with (first | ((with_reducible refine (classOf_is _ (u8_lt _) _ HY.out _).mono ?_); rintro e w' ⟨rfl, rfl⟩))
          go_roundg (s.size - (k + 1))
          case rel => exact ⟨k + 1, by omega, by omega, rfl, by go_num, by rw [← HR.out, ← rend_yes wc256 HD.out], rfl⟩
          case measure => omega
        · have HY : Hid (((cls s[k].toNat : Nat) : Int) = 2) := Lib.hid (cls_is hlt 2 hx)
          clear hd hx
          go_wp2_with (first | ((with_reducible refine (classOf_is _ (u8_lt _) _ HY.out _).mono ?_); rintro e w' ⟨rfl, rfl⟩))
          go_roundg (s.size - (k + 1))
          case rel => exact ⟨k + 1, by omega, by omega, rfl, by go_num, by rw [← HR.out, ← rend_yes wc256 HD.out], rfl⟩
          case measure => omega
        · have HY : Hid (((cls s[k].toNat : Nat) : Int) = 3) := Lib.hid (cls_is hlt 3 hx)
          clear hd hx
          go_wp2_with (first | ((with_reducible refine (classOf_is _ (u8_lt _) _ HY.out _).mono ?_); rintro e w' ⟨rfl, rfl⟩))
          go_roundg (s.size - (k + 1))
          case rel => exact ⟨k + 1, by omega, by omega, rfl, by go_num, by rw [← HR.out, ← rend_yes wc256 HD.out], rfl⟩
          case measure => omega
    · obtain rfl : k = s.size := by omega
      have HX : Hid (tokEnd s a = s.size) := Lib.hid (by rw [← HR.out, rend_no wc256 (by rw [bt_out hlt]; rfl)])
      go_wp2
      try rw [Exit.noGoto_ret]
      go_ret
      exact ⟨ret_int (by rw [HX.out]), rfl⟩
set_option maxHeartbeats 1000000 in
theorem end_tyvar (s : ByteArray) (a B : Nat) (ha : a + 1 < s.size) (hs : s.size ≤ maxLen) (w : World) (hc : w.cell? ⟨B, 0, none⟩ = some (.string s)) (h0 : bt s a = 39) (h1 : lt (bt s (a + 1)) = true) :
    Calls Tryz.prog 130 #[.int .i64 a, .pointer (some ⟨B, 0, none⟩)] w (EndPost s a w) := by
  have hs' := hs
  unfold maxLen at hs
  have HE : Hid (tokEnd s a = rend wc s (a + 1)) := Lib.hid (by unfold tokEnd; rw [if_neg (by rw [h0]; decide), if_pos (.inr ⟨h0, h1⟩)])
  have hd : dg (bt s (a + 1)) = false := by rw [dg_false]; have := lt_iff.1 h1; omega
  have HC : Hid (((cls s[a].toNat : Nat) : Int) = 3) := Lib.hid (cls_is (by omega) 3 (by rw [h0]; rfl))
  have hq : ((a : Int) + 1 == (s.size : Int)) = false := by simp; omega
  have HN : Hid (((cls s[a + 1].toNat : Nat) : Int) = 2) := Lib.hid (cls_is ha 2 (by unfold cls; rw [if_neg (by simp [hd]), if_pos h1]))
  clear h0 h1 hd
  go_enter Tryz.func130, Tryz.ntmps130
  go_wp2
  go_step3
  go_wp2_with (first | ((with_reducible refine (classOf_is _ (u8_lt _) _ HC.out _).mono ?_); rintro e w' ⟨rfl, rfl⟩) | ((with_reducible refine (classOf_is _ (u8_lt _) _ HN.out _).mono ?_); rintro e w' ⟨rfl, rfl⟩))
  go_step3
  go_wp2
  go_loopg [5] (s.size - (a + 1)) (fun n x wr => ∃ k : Nat, a + 1 ≤ k ∧ k ≤ s.size ∧ n = s.size - k ∧ x = .int .i64 k ∧ rend wc s k = tokEnd s a ∧ w = wr)
  case atStart => exact ⟨a + 1, by omega, by omega, rfl, by go_num, HE.out.symm, rfl⟩
  case round =>
    obtain ⟨k, hak, hk, rfl, rfl, hr, rfl⟩ := hrel
    have HR := Lib.hid hr
    clear hr
    by_cases hlt : k < s.size
    · cases hd : wc (bt s k)
      · have HX : Hid (tokEnd s a = k) := Lib.hid (by rw [← HR.out, rend_no wc256 hd])
        have HY : Hid (((cls s[k].toNat : Nat) : Int) = 0) := Lib.hid (cls_is hlt 0 (wc_cls0 hd))
        clear hd
        go_wp2_with (first | ((with_reducible refine (classOf_is _ (u8_lt _) _ HY.out _).mono ?_); rintro e w' ⟨rfl, rfl⟩))
        try rw [Exit.noGoto_ret]
        go_ret
        exact ⟨ret_int (by rw [HX.out]), rfl⟩
      · have HD := Lib.hid hd
        rcases wc_cls hd with hx | hx | hx
        · have HY : Hid (((cls s[k].toNat : Nat) : Int) = 1) := Lib.hid (cls_is hlt 1 hx)
          clear hd hx
          go_wp2_with (first | ((with_reducible refine (classOf_is _ (u8_lt _) _ HY.out _).mono ?_); rintro e w' ⟨rfl, rfl⟩))
          go_roundg (s.size - (k + 1))
          case rel => exact ⟨k + 1, by omega, by omega, rfl, by go_num, by rw [← HR.out, ← rend_yes wc256 HD.out], rfl⟩
          case measure => omega
        · have HY : Hid (((cls s[k].toNat : Nat) : Int) = 2) := Lib.hid (cls_is hlt 2 hx)
          clear hd hx
          go_wp2_with (first | ((with_reducible refine (classOf_is _ (u8_lt _) _ HY.out _).mono ?_); rintro e w' ⟨rfl, rfl⟩))
          go_roundg (s.size - (k + 1))
          case rel => exact ⟨k + 1, by omega, by omega, rfl, by go_num, by rw [← HR.out, ← rend_yes wc256 HD.out], rfl⟩
          case measure => omega
        · have HY : Hid (((cls s[k].toNat : Nat) : Int) = 3) := Lib.hid (cls_is hlt 3 hx)
          clear hd hx
          go_wp2_with (first | ((with_reducible refine (classOf_is _ (u8_lt _) _ HY.out _).mono ?_); rintro e w' ⟨rfl, rfl⟩))
          go_roundg (s.size - (k + 1))
          case rel => exact ⟨k + 1, by omega, by omega, rfl, by go_num, by rw [← HR.out, ← rend_yes wc256 HD.out], rfl⟩
          case measure => omega
    · obtain rfl : k = s.size := by omega
      have HX : Hid (tokEnd s a = s.size) := Lib.hid (by rw [← HR.out, rend_no wc256 (by rw [bt_out hlt]; rfl)])
      go_wp2
      try rw [Exit.noGoto_ret]
      go_ret
      exact ⟨ret_int (by rw [HX.out]), rfl⟩
theorem end_any (s : ByteArray) (a B : Nat) (ha : a < s.size) (hs : s.size ≤ maxLen) (w : World) (hT : Tabs w) (hc : w.cell? ⟨B, 0, none⟩ = some (.string s)) :
    Calls Tryz.prog 130 #[.int .i64 a, .pointer (some ⟨B, 0, none⟩)] w (EndPost s a w) := by
  cases h0 : dg (bt s a)
  · cases h1 : lt (bt s a)
    · by_cases h2 : bt s a = 39 ∧ lt (bt s (a + 1)) = true
      · have h3 : a + 1 < s.size := lt_of_bt (by have := lt_iff.1 h2.2; omega)
        exact end_tyvar s a B h3 hs w hc h2.1 h2.2
      · exact end_sign s a B ha hs w hT hc h0 h1 h2
    · exact end_letters s a B ha hs w hc h0 h1
  · exact end_digits s a B ha hs w hc h0

/-! ### Kinds -/
theorem kindM_eq (t : ByteArray) (h0 : 0 < t.size) : ((kindM t : Nat) : Int) = if ((cls t[0].toNat : Nat) : Int) = 1 then 1 else if ((cls t[0].toNat : Nat) : Int) = 3 then 4 else if ((cls t[0].toNat : Nat) : Int) = 0 then 6 else if t.toList = [95] then 6
    else if isKw t.data.toList = true then 5 else if t.toList = [116, 114, 117, 101] ∨ t.toList = [102, 97, 108, 115, 101] ∨ ((65 : Int) ≤ (t[0].toNat : Nat) ∧ ((t[0].toNat : Nat) : Int) ≤ 90) then 3 else 2 := by
  unfold kindM
  rw [ByteArray.toList_eq, ← bt_in h0]
  rcases cls_cases (bt t 0) with ⟨h1, h2⟩ | ⟨h1, h2, h3⟩ | ⟨h1, h2⟩ | ⟨h1, h2, h3, h4⟩
  · rw [h1, if_pos h2]; rfl
  · rw [h1, if_neg (by simp [h2]), if_neg (by have := lt_iff.1 h3; omega), if_neg (by simp [h3])]
    rw [if_neg (show ¬ (((2 : Nat) : Int) = 1) by decide), if_neg (show ¬ (((2 : Nat) : Int) = 3) by decide), if_neg (show ¬ (((2 : Nat) : Int) = 0) by decide)]
    have e : (65 ≤ bt t 0 ∧ bt t 0 ≤ 90) ↔ ((65 : Int) ≤ (bt t 0 : Nat) ∧ ((bt t 0 : Nat) : Int) ≤ 90) := by omega
    simp only [e]
    split
    · rfl
    · split
      · rfl
      · split <;> rfl
  · rw [h2]; rfl
  · rw [h1, if_neg (by simp [h2]), if_neg h4, if_pos h3]; rfl
theorem kindOf_any (t : ByteArray) (h0 : 0 < t.size) (hs : t.size ≤ maxLen) (w : World) (hT : Tabs w) : Calls Tryz.prog 135 #[.string t] w fun e w' => e = .returned (.int .i64 (kindM t : Nat)) ∧ w = w' := by
  have HT := Lib.hid hT
  clear hT
  have hk := kindM_eq t h0
  obtain ⟨x, hx⟩ : ∃ x : Int, ((cls t[0].toNat : Nat) : Int) = x := ⟨_, rfl⟩
  rw [hx] at hk
  have HX := Lib.hid hx
  have HK := Lib.hid hk
  clear hx hk
  go_enter Tryz.func135, Tryz.ntmps135
  go_wp2_with (first | ((with_reducible refine (classOf_is _ (u8_lt _) x HX.out _).mono ?_); rintro e w' ⟨rfl, rfl⟩) | ((with_reducible refine (isKeyword_any _ _ HT.out).mono ?_); rintro e w' ⟨rfl, rfl⟩))
  all_goals go_ret
  all_goals refine ⟨ret_int ?_, rfl⟩
  all_goals rw [HK.out]
  all_goals clear HK HX
  all_goals simp only [beq_iff_eq, beq_eq_false_iff_ne, ne_eq] at *
  all_goals simp [*]
  all_goals first | omega | (simp_all; done) | (simp_all; omega)
end Go.Proofs.YtoopopjcojphaaaGreatDoor.Lx
/-
  CONTRACTS OF lex, IV: the token of a text.
-/
namespace Go.Proofs.YtoopopjcojphaaaGreatDoor.Lx
open Go.ChangeShapes Go.WideShapes Go.ChangeAt Go.RowKit
set_option linter.unusedVariables false
set_option maxRecDepth 100000
theorem kindOf_is (t : ByteArray) (h0 : 0 < t.size) (hs : t.size ≤ maxLen) (w : World) (hT : Tabs w) (x : Int) (hx : ((kindM t : Nat) : Int) = x) : Calls Tryz.prog 135 #[.string t] w fun e w' => e = .returned (.int .i64 x) ∧ w = w' := by
  subst hx; exact kindOf_any t h0 hs w hT
theorem numberOf_is (t : ByteArray) (hs : t.size ≤ maxLen) (hd : ∀ k, k < t.size → dg (bt t k) = true) (w : World) (x : Int) (hx : ((cap (vl t 0 t.size) : Nat) : Int) = x) : Calls Tryz.prog 136 #[.string t] w fun e w' => e = .returned (.int .i64 x) ∧ w = w' := by
  subst hx; exact numberOf_any t hs hd w
/-- What tokenOf returns. -/
def TokPost (t : ByteArray) (g : Bool) (w : World) (e : Ending) (w' : World) : Prop :=
  ∃ (K n : Int) (y : ByteArray) (k : Int), e = .returned (.tuple #[.agg #[.int .i64 K, .int .i64 0, .string y, .int .i64 n], .int .i64 k]) ∧ ((tokErr t g : Nat) : Int) = k ∧ (k = 0 → (#[.int .i64 K, .int .i64 0, .string y, .int .i64 n] : Array Value) = #[.int .i64 (kindM t : Nat), .int .i64 0, .string t, .int .i64 (tokN t : Nat)]) ∧ Below w.heap.size w w'
theorem tok_below (w : World) (o1 o2 : Obj) (w' : World) (h : Below w.heap.size ((w.alloc o1).alloc o2) w') : Below w.heap.size w w' := (((Below.refl _ _).alloc (Nat.le_refl _) _).alloc (by simp) _).trans h
theorem tok_two (w : World) (o1 o2 : Obj) : Below w.heap.size w ((w.alloc o1).alloc o2) := ((Below.refl _ _).alloc (Nat.le_refl _) _).alloc (by simp) _
theorem nonempty_of {t : ByteArray} (h0 : 0 < t.size) : t.toList.isEmpty = false := by
  rw [ByteArray.toList_eq]
  cases h : t.data.toList with
  | nil => have := size_toList t; rw [h] at this; simp at this; omega
  | cons => rfl
theorem trim_is (t : ByteArray) (y : ByteArray) (hy : mkS (Lib.trimPrefix t.data.toList [39]) = y) (w : World) : Calls Tryz.prog 137 #[.string t, .string ⟨#[39]⟩] w fun e w' => e = .returned (.string y) ∧ w = w' := by
  subst hy
  exact (Tryz.strings_TrimPrefix t _ w).mono fun e w' ⟨he, hw⟩ => ⟨he, hw.symm⟩
theorem trim_size (t : ByteArray) : (mkS (Lib.trimPrefix t.data.toList [39])).size = nameLen t := by
  rw [mkS_size]
  unfold Lib.trimPrefix nameLen
  have h := hasPrefix_pre (s := t) (a := 0) (Nat.zero_le _) [39]
  have e : t.extract 0 t.size = t := by
    apply ext_of_bt
    · rw [ext_size (Nat.le_refl _)]; rfl
    · intro k hk
      rw [ext_size (Nat.le_refl _)] at hk
      rw [bt_ext (Nat.le_refl _), if_pos hk, Nat.zero_add]
  rw [e] at h
  rw [h]
  have e2 : pre t 0 [39] = decide (bt t 0 = 39) := by
    show (decide (bt t 0 = 39) && true) = _
    rw [Bool.and_true]
  rw [e2]
  by_cases hb : bt t 0 = 39
  · rw [if_pos (by simp [hb]), if_pos hb, List.length_drop, size_toList]; rfl
  · rw [if_neg (by simp [hb]), if_neg hb, size_toList]

set_option maxHeartbeats 1000000 in
theorem tokenOf_empty (t : ByteArray) (g : Bool) (h0 : t.size = 0) (w : World) : Calls Tryz.prog 115 #[.string t, .bool g] w (TokPost t g w) := by
  have HR : Hid (((tokErr t g : Nat) : Int) = 11) := Lib.hid (by unfold tokErr; rw [if_pos h0]; rfl)
  have he : t.toList = [] := by rw [ByteArray.toList_eq]; exact List.eq_nil_of_length_eq_zero (by rw [size_toList, h0])
  clear h0
  go_enter Tryz.func115, Tryz.ntmps115
  go_wp2
  refine bodyPost_ret (v := .tuple #[.agg #[.int .i64 0, .int .i64 0, .string ⟨#[]⟩, .int .i64 0], .int .i64 11]) (by simp [results, Tryz.results115, go_sem]) rfl ⟨_, _, _, _, rfl, HR.out, (fun h => by cases h), ?_⟩
  exact (Below.refl _ _).alloc (Nat.le_refl _) _
theorem tokErr_num {t : ByteArray} {g : Bool} (h0 : 0 < t.size) (hk : kindM t = 1) : tokErr t g = if (1 < t.size ∧ bt t 0 = 48) ∨ 1073741824 < vl t 0 t.size ∨ (vl t 0 t.size = 1073741824 ∧ g = false) then 13 else 0 := by
  unfold tokErr; rw [if_neg (by omega), if_pos hk]
set_option maxHeartbeats 1000000 in
theorem tokenOf_lead (t : ByteArray) (g : Bool) (h0 : 0 < t.size) (hs : t.size ≤ maxLen) (w : World) (hT : Tabs w) (hk : kindM t = 1) (hd : ∀ k, k < t.size → dg (bt t k) = true) (h1 : 1 < t.size) (h2 : t[0].toNat = 48) : Calls Tryz.prog 115 #[.string t, .bool g] w (TokPost t g w) := by
  have he := nonempty_of h0
  have HT : Hid (∀ o, Tabs (w.alloc o)) := Lib.hid fun o => hT.on (below_new w o)
  clear hT
  have HK : Hid (((kindM t : Nat) : Int) = 1) := Lib.hid (by rw [hk]; rfl)
  have HD := Lib.hid hd
  have HS := Lib.hid hs
  have HR : Hid (((tokErr t g : Nat) : Int) = 13) := Lib.hid (by rw [tokErr_num h0 hk, if_pos (.inl ⟨h1, by rw [bt_in h0]; exact h2⟩)]; rfl)
  have h48 : ((t[0].toNat : Int) == 48) = true := by simp; omega
  have H1 : (1 : Int) < t.size := by omega
  obtain ⟨x, hx⟩ : ∃ x : Int, ((cap (vl t 0 t.size) : Nat) : Int) = x := ⟨_, rfl⟩
  have HX := Lib.hid hx
  clear hk hd h2 hx
  go_enter Tryz.func115, Tryz.ntmps115
  go_wp2_with (first | ((with_reducible refine (kindOf_is _ h0 hs _ (HT.out _) _ HK.out).mono ?_); rintro e w' ⟨rfl, rfl⟩) | ((with_reducible refine (numberOf_is _ hs HD.out _ _ HX.out).mono ?_); rintro e w' ⟨rfl, rfl⟩))
  exact bodyPost_ret (v := .tuple #[.agg #[.int .i64 0, .int .i64 0, .string ⟨#[]⟩, .int .i64 0], .int .i64 13]) (by simp [results, Tryz.results115, go_sem]) rfl ⟨_, _, _, _, rfl, HR.out, (fun h => by cases h), tok_two _ _ _⟩
set_option maxHeartbeats 1000000 in
theorem tokenOf_big_one (t : ByteArray) (g : Bool) (h0 : 0 < t.size) (hs : t.size ≤ maxLen) (w : World) (hT : Tabs w) (hk : kindM t = 1) (hd : ∀ k, k < t.size → dg (bt t k) = true) (h1 : t.size = 1) (h3 : 1073741824 < vl t 0 t.size) : Calls Tryz.prog 115 #[.string t, .bool g] w (TokPost t g w) := by
  have he := nonempty_of h0
  have HT : Hid (∀ o, Tabs (w.alloc o)) := Lib.hid fun o => hT.on (below_new w o)
  clear hT
  have HK : Hid (((kindM t : Nat) : Int) = 1) := Lib.hid (by rw [hk]; rfl)
  have HD := Lib.hid hd
  have HS := Lib.hid hs
  have HR : Hid (((tokErr t g : Nat) : Int) = 13) := Lib.hid (by rw [tokErr_num h0 hk, if_pos (.inr (.inl h3))]; rfl)
  have HX : Hid (((cap (vl t 0 t.size) : Nat) : Int) = 1073741825) := Lib.hid (by unfold cap; omega)
  have H1 : ¬ (1 : Int) < t.size := by omega
  clear hk hd h3
  go_enter Tryz.func115, Tryz.ntmps115
  go_wp2_with (first | ((with_reducible refine (kindOf_is _ h0 hs _ (HT.out _) _ HK.out).mono ?_); rintro e w' ⟨rfl, rfl⟩) | ((with_reducible refine (numberOf_is _ hs HD.out _ _ HX.out).mono ?_); rintro e w' ⟨rfl, rfl⟩))
  exact bodyPost_ret (v := .tuple #[.agg #[.int .i64 0, .int .i64 0, .string ⟨#[]⟩, .int .i64 0], .int .i64 13]) (by simp [results, Tryz.results115, go_sem]) rfl ⟨_, _, _, _, rfl, HR.out, (fun h => by cases h), tok_two _ _ _⟩
set_option maxHeartbeats 1000000 in
theorem tokenOf_edge_one (t : ByteArray) (g : Bool) (h0 : 0 < t.size) (hs : t.size ≤ maxLen) (w : World) (hT : Tabs w) (hk : kindM t = 1) (hd : ∀ k, k < t.size → dg (bt t k) = true) (h1 : t.size = 1) (h3 : vl t 0 t.size = 1073741824) (h4 : g = false) : Calls Tryz.prog 115 #[.string t, .bool g] w (TokPost t g w) := by
  have he := nonempty_of h0
  have HT : Hid (∀ o, Tabs (w.alloc o)) := Lib.hid fun o => hT.on (below_new w o)
  clear hT
  have HK : Hid (((kindM t : Nat) : Int) = 1) := Lib.hid (by rw [hk]; rfl)
  have HD := Lib.hid hd
  have HS := Lib.hid hs
  have HR : Hid (((tokErr t g : Nat) : Int) = 13) := Lib.hid (by rw [tokErr_num h0 hk, if_pos (.inr (.inr ⟨h3, h4⟩))]; rfl)
  have HX : Hid (((cap (vl t 0 t.size) : Nat) : Int) = 1073741824) := Lib.hid (by unfold cap; omega)
  have H1 : ¬ (1 : Int) < t.size := by omega
  subst h4
  clear hk hd h3
  go_enter Tryz.func115, Tryz.ntmps115
  go_wp2_with (first | ((with_reducible refine (kindOf_is _ h0 hs _ (HT.out _) _ HK.out).mono ?_); rintro e w' ⟨rfl, rfl⟩) | ((with_reducible refine (numberOf_is _ hs HD.out _ _ HX.out).mono ?_); rintro e w' ⟨rfl, rfl⟩))
  exact bodyPost_ret (v := .tuple #[.agg #[.int .i64 0, .int .i64 0, .string ⟨#[]⟩, .int .i64 0], .int .i64 13]) (by simp [results, Tryz.results115, go_sem]) rfl ⟨_, _, _, _, rfl, HR.out, (fun h => by cases h), tok_two _ _ _⟩
set_option maxHeartbeats 1000000 in
theorem tokenOf_neg_one (t : ByteArray) (g : Bool) (h0 : 0 < t.size) (hs : t.size ≤ maxLen) (w : World) (hT : Tabs w) (hk : kindM t = 1) (hd : ∀ k, k < t.size → dg (bt t k) = true) (h1 : t.size = 1) (h3 : vl t 0 t.size = 1073741824) (h4 : g = true) : Calls Tryz.prog 115 #[.string t, .bool g] w (TokPost t g w) := by
  have he := nonempty_of h0
  have HT : Hid (∀ o, Tabs (w.alloc o)) := Lib.hid fun o => hT.on (below_new w o)
  clear hT
  have HK : Hid (((kindM t : Nat) : Int) = 1) := Lib.hid (by rw [hk]; rfl)
  have HD := Lib.hid hd
  have HS := Lib.hid hs
  have HR : Hid (((tokErr t g : Nat) : Int) = 0) := Lib.hid (by rw [tokErr_num h0 hk, if_neg (by rw [bt_in h0]; simp [h4]; omega)]; rfl)
  have HX : Hid (((cap (vl t 0 t.size) : Nat) : Int) = 1073741824) := Lib.hid (by unfold cap; omega)
  have HV : Hid ((#[.int .i64 1, .int .i64 0, .string t, .int .i64 1073741824] : Array Value) = #[.int .i64 (kindM t : Nat), .int .i64 0, .string t, .int .i64 (tokN t : Nat)]) := Lib.hid (by unfold tokN; rw [hk, if_pos rfl, h3]; rfl)
  have H1 : ¬ (1 : Int) < t.size := by omega
  subst h4
  clear hk hd h3
  go_enter Tryz.func115, Tryz.ntmps115
  go_wp2_with (first | ((with_reducible refine (kindOf_is _ h0 hs _ (HT.out _) _ HK.out).mono ?_); rintro e w' ⟨rfl, rfl⟩) | ((with_reducible refine (numberOf_is _ hs HD.out _ _ HX.out).mono ?_); rintro e w' ⟨rfl, rfl⟩))
  exact bodyPost_ret (v := .tuple #[.agg #[.int .i64 1, .int .i64 0, .string t, .int .i64 1073741824], .int .i64 0]) (by simp [results, Tryz.results115, go_sem]) rfl ⟨_, _, _, _, rfl, HR.out, (fun _ => HV.out), tok_two _ _ _⟩
set_option maxHeartbeats 1000000 in
theorem tokenOf_num_one (t : ByteArray) (g : Bool) (h0 : 0 < t.size) (hs : t.size ≤ maxLen) (w : World) (hT : Tabs w) (hk : kindM t = 1) (hd : ∀ k, k < t.size → dg (bt t k) = true) (h1 : t.size = 1) (h3 : vl t 0 t.size < 1073741824) : Calls Tryz.prog 115 #[.string t, .bool g] w (TokPost t g w) := by
  have he := nonempty_of h0
  have HT : Hid (∀ o, Tabs (w.alloc o)) := Lib.hid fun o => hT.on (below_new w o)
  clear hT
  have HK : Hid (((kindM t : Nat) : Int) = 1) := Lib.hid (by rw [hk]; rfl)
  have HD := Lib.hid hd
  have HS := Lib.hid hs
  have HR : Hid (((tokErr t g : Nat) : Int) = 0) := Lib.hid (by rw [tokErr_num h0 hk, if_neg (by rw [bt_in h0]; omega)]; rfl)
  obtain ⟨x, hv⟩ : ∃ x : Int, ((vl t 0 t.size : Nat) : Int) = x := ⟨_, rfl⟩
  have HX : Hid (((cap (vl t 0 t.size) : Nat) : Int) = x) := Lib.hid (by unfold cap; omega)
  have hx0 : 0 ≤ x := by omega
  have hx1 : x < 1073741824 := by omega
  have hx2 : (x == 1073741824) = false := by simp; omega
  have HV : Hid ((#[.int .i64 1, .int .i64 0, .string t, .int .i64 x] : Array Value) = #[.int .i64 (kindM t : Nat), .int .i64 0, .string t, .int .i64 (tokN t : Nat)]) := Lib.hid (by unfold tokN; rw [hk, if_pos rfl, hv]; rfl)
  have H1 : ¬ (1 : Int) < t.size := by omega
  clear hk hd h3 hv
  go_enter Tryz.func115, Tryz.ntmps115
  go_wp2_with (first | ((with_reducible refine (kindOf_is _ h0 hs _ (HT.out _) _ HK.out).mono ?_); rintro e w' ⟨rfl, rfl⟩) | ((with_reducible refine (numberOf_is _ hs HD.out _ _ HX.out).mono ?_); rintro e w' ⟨rfl, rfl⟩))
  exact bodyPost_ret (v := .tuple #[.agg #[.int .i64 1, .int .i64 0, .string t, .int .i64 x], .int .i64 0]) (by simp [results, Tryz.results115, go_sem]) rfl ⟨_, _, _, _, rfl, HR.out, (fun _ => HV.out), tok_two _ _ _⟩
set_option maxHeartbeats 1000000 in
theorem tokenOf_big_more (t : ByteArray) (g : Bool) (h0 : 0 < t.size) (hs : t.size ≤ maxLen) (w : World) (hT : Tabs w) (hk : kindM t = 1) (hd : ∀ k, k < t.size → dg (bt t k) = true) (h1 : 1 < t.size) (h2 : t[0].toNat ≠ 48) (h3 : 1073741824 < vl t 0 t.size) : Calls Tryz.prog 115 #[.string t, .bool g] w (TokPost t g w) := by
  have he := nonempty_of h0
  have HT : Hid (∀ o, Tabs (w.alloc o)) := Lib.hid fun o => hT.on (below_new w o)
  clear hT
  have HK : Hid (((kindM t : Nat) : Int) = 1) := Lib.hid (by rw [hk]; rfl)
  have HD := Lib.hid hd
  have HS := Lib.hid hs
  have HR : Hid (((tokErr t g : Nat) : Int) = 13) := Lib.hid (by rw [tokErr_num h0 hk, if_pos (.inr (.inl h3))]; rfl)
  have HX : Hid (((cap (vl t 0 t.size) : Nat) : Int) = 1073741825) := Lib.hid (by unfold cap; omega)
  have H1 : (1 : Int) < t.size := by omega
  have h48 : ((t[0].toNat : Int) == 48) = false := by simp; omega
  clear hk hd h3
  go_enter Tryz.func115, Tryz.ntmps115
  go_wp2_with (first | ((with_reducible refine (kindOf_is _ h0 hs _ (HT.out _) _ HK.out).mono ?_); rintro e w' ⟨rfl, rfl⟩) | ((with_reducible refine (numberOf_is _ hs HD.out _ _ HX.out).mono ?_); rintro e w' ⟨rfl, rfl⟩))
  exact bodyPost_ret (v := .tuple #[.agg #[.int .i64 0, .int .i64 0, .string ⟨#[]⟩, .int .i64 0], .int .i64 13]) (by simp [results, Tryz.results115, go_sem]) rfl ⟨_, _, _, _, rfl, HR.out, (fun h => by cases h), tok_two _ _ _⟩
set_option maxHeartbeats 1000000 in
theorem tokenOf_edge_more (t : ByteArray) (g : Bool) (h0 : 0 < t.size) (hs : t.size ≤ maxLen) (w : World) (hT : Tabs w) (hk : kindM t = 1) (hd : ∀ k, k < t.size → dg (bt t k) = true) (h1 : 1 < t.size) (h2 : t[0].toNat ≠ 48) (h3 : vl t 0 t.size = 1073741824) (h4 : g = false) : Calls Tryz.prog 115 #[.string t, .bool g] w (TokPost t g w) := by
  have he := nonempty_of h0
  have HT : Hid (∀ o, Tabs (w.alloc o)) := Lib.hid fun o => hT.on (below_new w o)
  clear hT
  have HK : Hid (((kindM t : Nat) : Int) = 1) := Lib.hid (by rw [hk]; rfl)
  have HD := Lib.hid hd
  have HS := Lib.hid hs
  have HR : Hid (((tokErr t g : Nat) : Int) = 13) := Lib.hid (by rw [tokErr_num h0 hk, if_pos (.inr (.inr ⟨h3, h4⟩))]; rfl)
  have HX : Hid (((cap (vl t 0 t.size) : Nat) : Int) = 1073741824) := Lib.hid (by unfold cap; omega)
  have H1 : (1 : Int) < t.size := by omega
  have h48 : ((t[0].toNat : Int) == 48) = false := by simp; omega
  subst h4
  clear hk hd h3
  go_enter Tryz.func115, Tryz.ntmps115
  go_wp2_with (first | ((with_reducible refine (kindOf_is _ h0 hs _ (HT.out _) _ HK.out).mono ?_); rintro e w' ⟨rfl, rfl⟩) | ((with_reducible refine (numberOf_is _ hs HD.out _ _ HX.out).mono ?_); rintro e w' ⟨rfl, rfl⟩))
  exact bodyPost_ret (v := .tuple #[.agg #[.int .i64 0, .int .i64 0, .string ⟨#[]⟩, .int .i64 0], .int .i64 13]) (by simp [results, Tryz.results115, go_sem]) rfl ⟨_, _, _, _, rfl, HR.out, (fun h => by cases h), tok_two _ _ _⟩
set_option maxHeartbeats 1000000 in
theorem tokenOf_neg_more (t : ByteArray) (g : Bool) (h0 : 0 < t.size) (hs : t.size ≤ maxLen) (w : World) (hT : Tabs w) (hk : kindM t = 1) (hd : ∀ k, k < t.size → dg (bt t k) = true) (h1 : 1 < t.size) (h2 : t[0].toNat ≠ 48) (h3 : vl t 0 t.size = 1073741824) (h4 : g = true) : Calls Tryz.prog 115 #[.string t, .bool g] w (TokPost t g w) := by
  have he := nonempty_of h0
  have HT : Hid (∀ o, Tabs (w.alloc o)) := Lib.hid fun o => hT.on (below_new w o)
  clear hT
  have HK : Hid (((kindM t : Nat) : Int) = 1) := Lib.hid (by rw [hk]; rfl)
  have HD := Lib.hid hd
  have HS := Lib.hid hs
  have HR : Hid (((tokErr t g : Nat) : Int) = 0) := Lib.hid (by rw [tokErr_num h0 hk, if_neg (by rw [bt_in h0]; simp [h4]; omega)]; rfl)
  have HX : Hid (((cap (vl t 0 t.size) : Nat) : Int) = 1073741824) := Lib.hid (by unfold cap; omega)
  have HV : Hid ((#[.int .i64 1, .int .i64 0, .string t, .int .i64 1073741824] : Array Value) = #[.int .i64 (kindM t : Nat), .int .i64 0, .string t, .int .i64 (tokN t : Nat)]) := Lib.hid (by unfold tokN; rw [hk, if_pos rfl, h3]; rfl)
  have H1 : (1 : Int) < t.size := by omega
  have h48 : ((t[0].toNat : Int) == 48) = false := by simp; omega
  subst h4
  clear hk hd h3
  go_enter Tryz.func115, Tryz.ntmps115
  go_wp2_with (first | ((with_reducible refine (kindOf_is _ h0 hs _ (HT.out _) _ HK.out).mono ?_); rintro e w' ⟨rfl, rfl⟩) | ((with_reducible refine (numberOf_is _ hs HD.out _ _ HX.out).mono ?_); rintro e w' ⟨rfl, rfl⟩))
  exact bodyPost_ret (v := .tuple #[.agg #[.int .i64 1, .int .i64 0, .string t, .int .i64 1073741824], .int .i64 0]) (by simp [results, Tryz.results115, go_sem]) rfl ⟨_, _, _, _, rfl, HR.out, (fun _ => HV.out), tok_two _ _ _⟩
set_option maxHeartbeats 1000000 in
theorem tokenOf_num_more (t : ByteArray) (g : Bool) (h0 : 0 < t.size) (hs : t.size ≤ maxLen) (w : World) (hT : Tabs w) (hk : kindM t = 1) (hd : ∀ k, k < t.size → dg (bt t k) = true) (h1 : 1 < t.size) (h2 : t[0].toNat ≠ 48) (h3 : vl t 0 t.size < 1073741824) : Calls Tryz.prog 115 #[.string t, .bool g] w (TokPost t g w) := by
  have he := nonempty_of h0
  have HT : Hid (∀ o, Tabs (w.alloc o)) := Lib.hid fun o => hT.on (below_new w o)
  clear hT
  have HK : Hid (((kindM t : Nat) : Int) = 1) := Lib.hid (by rw [hk]; rfl)
  have HD := Lib.hid hd
  have HS := Lib.hid hs
  have HR : Hid (((tokErr t g : Nat) : Int) = 0) := Lib.hid (by rw [tokErr_num h0 hk, if_neg (by rw [bt_in h0]; omega)]; rfl)
  obtain ⟨x, hv⟩ : ∃ x : Int, ((vl t 0 t.size : Nat) : Int) = x := ⟨_, rfl⟩
  have HX : Hid (((cap (vl t 0 t.size) : Nat) : Int) = x) := Lib.hid (by unfold cap; omega)
  have hx0 : 0 ≤ x := by omega
  have hx1 : x < 1073741824 := by omega
  have hx2 : (x == 1073741824) = false := by simp; omega
  have HV : Hid ((#[.int .i64 1, .int .i64 0, .string t, .int .i64 x] : Array Value) = #[.int .i64 (kindM t : Nat), .int .i64 0, .string t, .int .i64 (tokN t : Nat)]) := Lib.hid (by unfold tokN; rw [hk, if_pos rfl, hv]; rfl)
  have H1 : (1 : Int) < t.size := by omega
  have h48 : ((t[0].toNat : Int) == 48) = false := by simp; omega
  clear hk hd h3 hv
  go_enter Tryz.func115, Tryz.ntmps115
  go_wp2_with (first | ((with_reducible refine (kindOf_is _ h0 hs _ (HT.out _) _ HK.out).mono ?_); rintro e w' ⟨rfl, rfl⟩) | ((with_reducible refine (numberOf_is _ hs HD.out _ _ HX.out).mono ?_); rintro e w' ⟨rfl, rfl⟩))
  exact bodyPost_ret (v := .tuple #[.agg #[.int .i64 1, .int .i64 0, .string t, .int .i64 x], .int .i64 0]) (by simp [results, Tryz.results115, go_sem]) rfl ⟨_, _, _, _, rfl, HR.out, (fun _ => HV.out), tok_two _ _ _⟩
theorem tokErr_name {t : ByteArray} {g : Bool} (h0 : 0 < t.size) (hk : kindM t = 2 ∨ kindM t = 3 ∨ kindM t = 4) : tokErr t g = if 32 < nameLen t then 4 else 0 := by
  unfold tokErr; rw [if_neg (by omega), if_neg (by omega), if_pos hk]
theorem tokErr_sign {t : ByteArray} {g : Bool} (h0 : 0 < t.size) (hk : kindM t = 5 ∨ kindM t = 6) : tokErr t g = 0 := by
  unfold tokErr; rw [if_neg (by omega), if_neg (by omega), if_neg (by omega)]
set_option maxHeartbeats 1000000 in
theorem tokenOf_long_2 (t : ByteArray) (g : Bool) (h0 : 0 < t.size) (hs : t.size ≤ maxLen) (w : World) (hT : Tabs w) (hk : kindM t = 2) (h1 : 32 < nameLen t) : Calls Tryz.prog 115 #[.string t, .bool g] w (TokPost t g w) := by
  have he := nonempty_of h0
  have HT : Hid (∀ o, Tabs (w.alloc o)) := Lib.hid fun o => hT.on (below_new w o)
  clear hT
  have HK : Hid (((kindM t : Nat) : Int) = 2) := Lib.hid (by rw [hk]; rfl)
  obtain ⟨y, hy⟩ : ∃ y, mkS (Lib.trimPrefix t.data.toList [39]) = y := ⟨_, rfl⟩
  have hz := trim_size t
  rw [hy] at hz
  have HL := Lib.hid hy
  clear hy
  have HR : Hid (((tokErr t g : Nat) : Int) = 4) := Lib.hid (by rw [tokErr_name h0 (.inl hk), if_pos h1]; rfl)
  have h2 : (32 : Int) < y.size := by omega
  clear hz hk h1
  go_enter Tryz.func115, Tryz.ntmps115
  go_wp2_with (first | ((with_reducible refine (kindOf_is _ h0 hs _ (HT.out _) _ HK.out).mono ?_); rintro e w' ⟨rfl, rfl⟩) | (go_at_call 137; refine (trim_is t y HL.out _).mono ?_; rintro e w' ⟨rfl, rfl⟩))
  exact bodyPost_ret (v := .tuple #[.agg #[.int .i64 0, .int .i64 0, .string ⟨#[]⟩, .int .i64 0], .int .i64 4]) (by simp [results, Tryz.results115, go_sem]) rfl ⟨_, _, _, _, rfl, HR.out, (fun h => by cases h), tok_two _ _ _⟩
set_option maxHeartbeats 1000000 in
theorem tokenOf_name_2 (t : ByteArray) (g : Bool) (h0 : 0 < t.size) (hs : t.size ≤ maxLen) (w : World) (hT : Tabs w) (hk : kindM t = 2) (h1 : ¬ 32 < nameLen t) : Calls Tryz.prog 115 #[.string t, .bool g] w (TokPost t g w) := by
  have he := nonempty_of h0
  have HT : Hid (∀ o, Tabs (w.alloc o)) := Lib.hid fun o => hT.on (below_new w o)
  clear hT
  have HK : Hid (((kindM t : Nat) : Int) = 2) := Lib.hid (by rw [hk]; rfl)
  obtain ⟨y, hy⟩ : ∃ y, mkS (Lib.trimPrefix t.data.toList [39]) = y := ⟨_, rfl⟩
  have hz := trim_size t
  rw [hy] at hz
  have HL := Lib.hid hy
  clear hy
  have HR : Hid (((tokErr t g : Nat) : Int) = 0) := Lib.hid (by rw [tokErr_name h0 (.inl hk), if_neg h1]; rfl)
  have h2 : ¬ (32 : Int) < y.size := by omega
  have HV : Hid ((#[.int .i64 2, .int .i64 0, .string t, .int .i64 0] : Array Value) = #[.int .i64 (kindM t : Nat), .int .i64 0, .string t, .int .i64 (tokN t : Nat)]) := Lib.hid (by unfold tokN; rw [hk, if_neg (by decide)]; rfl)
  clear hz hk h1
  go_enter Tryz.func115, Tryz.ntmps115
  go_wp2_with (first | ((with_reducible refine (kindOf_is _ h0 hs _ (HT.out _) _ HK.out).mono ?_); rintro e w' ⟨rfl, rfl⟩) | (go_at_call 137; refine (trim_is t y HL.out _).mono ?_; rintro e w' ⟨rfl, rfl⟩))
  exact bodyPost_ret (v := .tuple #[.agg #[.int .i64 2, .int .i64 0, .string t, .int .i64 0], .int .i64 0]) (by simp [results, Tryz.results115, go_sem]) rfl ⟨_, _, _, _, rfl, HR.out, (fun _ => HV.out), tok_two _ _ _⟩
set_option maxHeartbeats 1000000 in
theorem tokenOf_long_3 (t : ByteArray) (g : Bool) (h0 : 0 < t.size) (hs : t.size ≤ maxLen) (w : World) (hT : Tabs w) (hk : kindM t = 3) (h1 : 32 < nameLen t) : Calls Tryz.prog 115 #[.string t, .bool g] w (TokPost t g w) := by
  have he := nonempty_of h0
  have HT : Hid (∀ o, Tabs (w.alloc o)) := Lib.hid fun o => hT.on (below_new w o)
  clear hT
  have HK : Hid (((kindM t : Nat) : Int) = 3) := Lib.hid (by rw [hk]; rfl)
  obtain ⟨y, hy⟩ : ∃ y, mkS (Lib.trimPrefix t.data.toList [39]) = y := ⟨_, rfl⟩
  have hz := trim_size t
  rw [hy] at hz
  have HL := Lib.hid hy
  clear hy
  have HR : Hid (((tokErr t g : Nat) : Int) = 4) := Lib.hid (by rw [tokErr_name h0 (.inr (.inl hk)), if_pos h1]; rfl)
  have h2 : (32 : Int) < y.size := by omega
  clear hz hk h1
  go_enter Tryz.func115, Tryz.ntmps115
  go_wp2_with (first | ((with_reducible refine (kindOf_is _ h0 hs _ (HT.out _) _ HK.out).mono ?_); rintro e w' ⟨rfl, rfl⟩) | (go_at_call 137; refine (trim_is t y HL.out _).mono ?_; rintro e w' ⟨rfl, rfl⟩))
  exact bodyPost_ret (v := .tuple #[.agg #[.int .i64 0, .int .i64 0, .string ⟨#[]⟩, .int .i64 0], .int .i64 4]) (by simp [results, Tryz.results115, go_sem]) rfl ⟨_, _, _, _, rfl, HR.out, (fun h => by cases h), tok_two _ _ _⟩
set_option maxHeartbeats 1000000 in
theorem tokenOf_name_3 (t : ByteArray) (g : Bool) (h0 : 0 < t.size) (hs : t.size ≤ maxLen) (w : World) (hT : Tabs w) (hk : kindM t = 3) (h1 : ¬ 32 < nameLen t) : Calls Tryz.prog 115 #[.string t, .bool g] w (TokPost t g w) := by
  have he := nonempty_of h0
  have HT : Hid (∀ o, Tabs (w.alloc o)) := Lib.hid fun o => hT.on (below_new w o)
  clear hT
  have HK : Hid (((kindM t : Nat) : Int) = 3) := Lib.hid (by rw [hk]; rfl)
  obtain ⟨y, hy⟩ : ∃ y, mkS (Lib.trimPrefix t.data.toList [39]) = y := ⟨_, rfl⟩
  have hz := trim_size t
  rw [hy] at hz
  have HL := Lib.hid hy
  clear hy
  have HR : Hid (((tokErr t g : Nat) : Int) = 0) := Lib.hid (by rw [tokErr_name h0 (.inr (.inl hk)), if_neg h1]; rfl)
  have h2 : ¬ (32 : Int) < y.size := by omega
  have HV : Hid ((#[.int .i64 3, .int .i64 0, .string t, .int .i64 0] : Array Value) = #[.int .i64 (kindM t : Nat), .int .i64 0, .string t, .int .i64 (tokN t : Nat)]) := Lib.hid (by unfold tokN; rw [hk, if_neg (by decide)]; rfl)
  clear hz hk h1
  go_enter Tryz.func115, Tryz.ntmps115
  go_wp2_with (first | ((with_reducible refine (kindOf_is _ h0 hs _ (HT.out _) _ HK.out).mono ?_); rintro e w' ⟨rfl, rfl⟩) | (go_at_call 137; refine (trim_is t y HL.out _).mono ?_; rintro e w' ⟨rfl, rfl⟩))
  exact bodyPost_ret (v := .tuple #[.agg #[.int .i64 3, .int .i64 0, .string t, .int .i64 0], .int .i64 0]) (by simp [results, Tryz.results115, go_sem]) rfl ⟨_, _, _, _, rfl, HR.out, (fun _ => HV.out), tok_two _ _ _⟩
set_option maxHeartbeats 1000000 in
theorem tokenOf_long_4 (t : ByteArray) (g : Bool) (h0 : 0 < t.size) (hs : t.size ≤ maxLen) (w : World) (hT : Tabs w) (hk : kindM t = 4) (h1 : 32 < nameLen t) : Calls Tryz.prog 115 #[.string t, .bool g] w (TokPost t g w) := by
  have he := nonempty_of h0
  have HT : Hid (∀ o, Tabs (w.alloc o)) := Lib.hid fun o => hT.on (below_new w o)
  clear hT
  have HK : Hid (((kindM t : Nat) : Int) = 4) := Lib.hid (by rw [hk]; rfl)
  obtain ⟨y, hy⟩ : ∃ y, mkS (Lib.trimPrefix t.data.toList [39]) = y := ⟨_, rfl⟩
  have hz := trim_size t
  rw [hy] at hz
  have HL := Lib.hid hy
  clear hy
  have HR : Hid (((tokErr t g : Nat) : Int) = 4) := Lib.hid (by rw [tokErr_name h0 (.inr (.inr hk)), if_pos h1]; rfl)
  have h2 : (32 : Int) < y.size := by omega
  clear hz hk h1
  go_enter Tryz.func115, Tryz.ntmps115
  go_wp2_with (first | ((with_reducible refine (kindOf_is _ h0 hs _ (HT.out _) _ HK.out).mono ?_); rintro e w' ⟨rfl, rfl⟩) | (go_at_call 137; refine (trim_is t y HL.out _).mono ?_; rintro e w' ⟨rfl, rfl⟩))
  exact bodyPost_ret (v := .tuple #[.agg #[.int .i64 0, .int .i64 0, .string ⟨#[]⟩, .int .i64 0], .int .i64 4]) (by simp [results, Tryz.results115, go_sem]) rfl ⟨_, _, _, _, rfl, HR.out, (fun h => by cases h), tok_two _ _ _⟩
set_option maxHeartbeats 1000000 in
theorem tokenOf_name_4 (t : ByteArray) (g : Bool) (h0 : 0 < t.size) (hs : t.size ≤ maxLen) (w : World) (hT : Tabs w) (hk : kindM t = 4) (h1 : ¬ 32 < nameLen t) : Calls Tryz.prog 115 #[.string t, .bool g] w (TokPost t g w) := by
  have he := nonempty_of h0
  have HT : Hid (∀ o, Tabs (w.alloc o)) := Lib.hid fun o => hT.on (below_new w o)
  clear hT
  have HK : Hid (((kindM t : Nat) : Int) = 4) := Lib.hid (by rw [hk]; rfl)
  obtain ⟨y, hy⟩ : ∃ y, mkS (Lib.trimPrefix t.data.toList [39]) = y := ⟨_, rfl⟩
  have hz := trim_size t
  rw [hy] at hz
  have HL := Lib.hid hy
  clear hy
  have HR : Hid (((tokErr t g : Nat) : Int) = 0) := Lib.hid (by rw [tokErr_name h0 (.inr (.inr hk)), if_neg h1]; rfl)
  have h2 : ¬ (32 : Int) < y.size := by omega
  have HV : Hid ((#[.int .i64 4, .int .i64 0, .string t, .int .i64 0] : Array Value) = #[.int .i64 (kindM t : Nat), .int .i64 0, .string t, .int .i64 (tokN t : Nat)]) := Lib.hid (by unfold tokN; rw [hk, if_neg (by decide)]; rfl)
  clear hz hk h1
  go_enter Tryz.func115, Tryz.ntmps115
  go_wp2_with (first | ((with_reducible refine (kindOf_is _ h0 hs _ (HT.out _) _ HK.out).mono ?_); rintro e w' ⟨rfl, rfl⟩) | (go_at_call 137; refine (trim_is t y HL.out _).mono ?_; rintro e w' ⟨rfl, rfl⟩))
  exact bodyPost_ret (v := .tuple #[.agg #[.int .i64 4, .int .i64 0, .string t, .int .i64 0], .int .i64 0]) (by simp [results, Tryz.results115, go_sem]) rfl ⟨_, _, _, _, rfl, HR.out, (fun _ => HV.out), tok_two _ _ _⟩
set_option maxHeartbeats 1000000 in
theorem tokenOf_sign_5 (t : ByteArray) (g : Bool) (h0 : 0 < t.size) (hs : t.size ≤ maxLen) (w : World) (hT : Tabs w) (hk : kindM t = 5) : Calls Tryz.prog 115 #[.string t, .bool g] w (TokPost t g w) := by
  have he := nonempty_of h0
  have HT : Hid (∀ o, Tabs (w.alloc o)) := Lib.hid fun o => hT.on (below_new w o)
  clear hT
  have HK : Hid (((kindM t : Nat) : Int) = 5) := Lib.hid (by rw [hk]; rfl)
  have HR : Hid (((tokErr t g : Nat) : Int) = 0) := Lib.hid (by rw [tokErr_sign h0 (.inl hk)]; rfl)
  have HV : Hid ((#[.int .i64 5, .int .i64 0, .string t, .int .i64 0] : Array Value) = #[.int .i64 (kindM t : Nat), .int .i64 0, .string t, .int .i64 (tokN t : Nat)]) := Lib.hid (by unfold tokN; rw [hk, if_neg (by decide)]; rfl)
  clear hk
  go_enter Tryz.func115, Tryz.ntmps115
  go_wp2_with (first | ((with_reducible refine (kindOf_is _ h0 hs _ (HT.out _) _ HK.out).mono ?_); rintro e w' ⟨rfl, rfl⟩))
  exact bodyPost_ret (v := .tuple #[.agg #[.int .i64 5, .int .i64 0, .string t, .int .i64 0], .int .i64 0]) (by simp [results, Tryz.results115, go_sem]) rfl ⟨_, _, _, _, rfl, HR.out, (fun _ => HV.out), tok_two _ _ _⟩
set_option maxHeartbeats 1000000 in
theorem tokenOf_sign_6 (t : ByteArray) (g : Bool) (h0 : 0 < t.size) (hs : t.size ≤ maxLen) (w : World) (hT : Tabs w) (hk : kindM t = 6) : Calls Tryz.prog 115 #[.string t, .bool g] w (TokPost t g w) := by
  have he := nonempty_of h0
  have HT : Hid (∀ o, Tabs (w.alloc o)) := Lib.hid fun o => hT.on (below_new w o)
  clear hT
  have HK : Hid (((kindM t : Nat) : Int) = 6) := Lib.hid (by rw [hk]; rfl)
  have HR : Hid (((tokErr t g : Nat) : Int) = 0) := Lib.hid (by rw [tokErr_sign h0 (.inr hk)]; rfl)
  have HV : Hid ((#[.int .i64 6, .int .i64 0, .string t, .int .i64 0] : Array Value) = #[.int .i64 (kindM t : Nat), .int .i64 0, .string t, .int .i64 (tokN t : Nat)]) := Lib.hid (by unfold tokN; rw [hk, if_neg (by decide)]; rfl)
  clear hk
  go_enter Tryz.func115, Tryz.ntmps115
  go_wp2_with (first | ((with_reducible refine (kindOf_is _ h0 hs _ (HT.out _) _ HK.out).mono ?_); rintro e w' ⟨rfl, rfl⟩))
  exact bodyPost_ret (v := .tuple #[.agg #[.int .i64 6, .int .i64 0, .string t, .int .i64 0], .int .i64 0]) (by simp [results, Tryz.results115, go_sem]) rfl ⟨_, _, _, _, rfl, HR.out, (fun _ => HV.out), tok_two _ _ _⟩
theorem kindM_cases (t : ByteArray) : kindM t = 1 ∨ kindM t = 2 ∨ kindM t = 3 ∨ kindM t = 4 ∨ kindM t = 5 ∨ kindM t = 6 := by
  unfold kindM
  repeat' split
  all_goals omega
/-- tokenOf, whatever the text: if it begins with a digit, it is digits. -/
theorem tokenOf_any (t : ByteArray) (g : Bool) (hs : t.size ≤ maxLen) (hd : kindM t = 1 → ∀ k, k < t.size → dg (bt t k) = true) (w : World) (hT : Tabs w) : Calls Tryz.prog 115 #[.string t, .bool g] w (TokPost t g w) := by
  by_cases hz : t.size = 0
  · exact tokenOf_empty t g hz w
  have h0 : 0 < t.size := by omega
  rcases kindM_cases t with hk | hk | hk | hk | hk | hk
  · have hd := hd hk
    by_cases h1 : 1 < t.size
    · by_cases h2 : t[0].toNat = 48
      · exact tokenOf_lead t g h0 hs w hT hk hd h1 h2
      · rcases Nat.lt_trichotomy (vl t 0 t.size) 1073741824 with h3 | h3 | h3
        · exact tokenOf_num_more t g h0 hs w hT hk hd h1 h2 h3
        · cases hg : g
          · exact hg ▸ tokenOf_edge_more t g h0 hs w hT hk hd h1 h2 h3 hg
          · exact hg ▸ tokenOf_neg_more t g h0 hs w hT hk hd h1 h2 h3 hg
        · exact tokenOf_big_more t g h0 hs w hT hk hd h1 h2 h3
    · have h1 : t.size = 1 := by omega
      rcases Nat.lt_trichotomy (vl t 0 t.size) 1073741824 with h3 | h3 | h3
      · exact tokenOf_num_one t g h0 hs w hT hk hd h1 h3
      · cases hg : g
        · exact hg ▸ tokenOf_edge_one t g h0 hs w hT hk hd h1 h3 hg
        · exact hg ▸ tokenOf_neg_one t g h0 hs w hT hk hd h1 h3 hg
      · exact tokenOf_big_one t g h0 hs w hT hk hd h1 h3
  · by_cases h1 : 32 < nameLen t
    · exact tokenOf_long_2 t g h0 hs w hT hk h1
    · exact tokenOf_name_2 t g h0 hs w hT hk h1
  · by_cases h1 : 32 < nameLen t
    · exact tokenOf_long_3 t g h0 hs w hT hk h1
    · exact tokenOf_name_3 t g h0 hs w hT hk h1
  · by_cases h1 : 32 < nameLen t
    · exact tokenOf_long_4 t g h0 hs w hT hk h1
    · exact tokenOf_name_4 t g h0 hs w hT hk h1
  · exact tokenOf_sign_5 t g h0 hs w hT hk
  · exact tokenOf_sign_6 t g h0 hs w hT hk
end Go.Proofs.YtoopopjcojphaaaGreatDoor.Lx
/-
  CONTRACTS OF lex, V: Scan.
-/
namespace Go.Proofs.YtoopopjcojphaaaGreatDoor.Lx
open Go.ChangeShapes Go.WideShapes Go.ChangeAt Go.RowKit
set_option linter.unusedVariables false
set_option maxRecDepth 100000
def tkV (t : Tk) : List Value := [.int .i64 t.kind, .int .i64 t.at_, .string t.text, .int .i64 t.n]
def tkCells (l : List Tk) : List Value := l.flatMap tkV
theorem tkCells_snoc (l : List Tk) (t : Tk) : tkCells (l ++ [t]) = tkCells l ++ tkV t := by simp [tkCells]
theorem tkCells_len (l : List Tk) : (tkCells l).length = l.length * 4 := by
  induction l with
  | nil => rfl
  | cons t l ih => unfold tkCells at *; rw [List.flatMap_cons, List.length_append, ih]; simp [tkV]; omega
theorem tkCells_get : ∀ (l : List Tk) (k : Nat) (t : Tk), l[k]? = some t → ∀ j u, j < 4 → (tkV t)[j]? = some u → (tkCells l)[k * 4 + j]? = some u
  | [], k, t, h, _, _, _, _ => by simp at h
  | x :: l, 0, t, h, j, u, hj, hu => by
    simp only [List.getElem?_cons_zero, Option.some.injEq] at h
    subst h
    unfold tkCells
    rw [List.flatMap_cons, Nat.zero_mul, Nat.zero_add, List.getElem?_append_left (by simp [tkV]; exact hj)]
    exact hu
  | x :: l, k + 1, t, h, j, u, hj, hu => by
    simp only [List.getElem?_cons_succ] at h
    have := tkCells_get l k t h j u hj hu
    unfold tkCells at *
    rw [List.flatMap_cons, show (k + 1) * 4 + j = (tkV x).length + (k * 4 + j) by simp [tkV]; omega, List.getElem?_append_right (by omega), Nat.add_sub_cancel_left]
    exact this
/-- The cells from A on hold the tokens of l; all lie below block B. -/
def ToksAt (w : World) (B : Nat) (A : Option Addr) (l : List Tk) : Prop :=
  ∀ (k : Nat) (t : Tk), l[k]? = some t → ∃ ad : Addr, A = some ad ∧ ad.block < B ∧ ∀ j u, j < 4 → (tkV t)[j]? = some u → w.cell? (ad.add (k * 4 + j)) = some u
section
variable {w w' : World} {B B' : Nat} {A : Option Addr} {l : List Tk}
theorem ToksAt.nil : ToksAt w B A [] := fun k x h => by simp at h
theorem ToksAt.keep (h : ToksAt w B A l) (hk : ∀ p : Addr, p.block < B → w'.cell? p = w.cell? p) : ToksAt w' B A l := fun k x hx => by
  obtain ⟨ad, e, hb, hc⟩ := h k x hx
  exact ⟨ad, e, hb, fun j u hj hu => (hk _ (by rw [block_add]; exact hb)).trans (hc j u hj hu)⟩
theorem ToksAt.more (h : ToksAt w B A l) (hB : B ≤ B') : ToksAt w B' A l := fun k x hx => by
  obtain ⟨ad, e, hb, hc⟩ := h k x hx
  exact ⟨ad, e, by omega, hc⟩
theorem ToksAt.below (h : ToksAt w B A l) (hb : Below B w w') : ToksAt w' B A l := h.keep fun _ hp => hb.cell hp
theorem ToksAt.take (h : ToksAt w B A l) (n : Nat) : ToksAt w B A (l.take n) := fun k x hx => h k x (by
  rw [List.getElem?_take] at hx
  split at hx
  · exact hx
  · cases hx)
end
theorem toks_own {w : World} {base : Nat} {e : TypeId} {A : Option Addr} {n c : Nat} {l : List Tk} (h : w.ownsRow base e 4 (.slice A n c) n (tkCells l)) : n = l.length ∧ ToksAt w w.heap.size A l ∧ n ≤ c ∧ c ≤ maxLen := by
  have hl : n = l.length := by have := h.1; rw [tkCells_len] at this; omega
  refine ⟨hl, fun k x hx => ?_, ?_⟩
  · rcases h.2 with ⟨hv, h0⟩ | ⟨g, cap, cur, hv, _, hh, _⟩
    · have := (List.getElem?_eq_some_iff.1 hx).1; omega
    · injection hv with hA
      subst hA
      have hlt : g < w.heap.size := by
        rcases Nat.lt_or_ge g w.heap.size with h' | h'
        · exact h'
        · rw [Array.getElem?_eq_none h'] at hh; cases hh
      exact ⟨_, rfl, hlt, fun j u hj hu => h.cells (g := g) rfl _ u (tkCells_get l k x hx j u hj hu)⟩
  · rcases h.2 with ⟨hv, h0⟩ | ⟨g, cap, cur, hv, _, _, hnc, hcm, _⟩
    · injection hv with _ _ hc
      subst hc
      exact ⟨by omega, Nat.zero_le _⟩
    · injection hv with _ _ hc
      subst hc
      exact ⟨hnc, hcm⟩
theorem own_form4 {w : World} {base : Nat} {e : TypeId} {v : Value} {n : Nat} {cs : List Value} (h : w.ownsRow base e 4 v n cs) : ∃ A c, v = .slice A n c := by
  rcases h.2 with ⟨hv, h0⟩ | ⟨g, cap, cur, hv, _⟩
  · exact ⟨_, _, by rw [hv, h0]⟩
  · exact ⟨_, _, hv⟩

/-! ### Steps of the scan -/
theorem one_open {s : ByteArray} {i c a : Nat} {g : Bool} (h : sk s i = (a, false)) : one s i c g = .bad 12 a := by unfold one; rw [h]; rfl
theorem one_fin {s : ByteArray} {i c : Nat} {g : Bool} (h : sk s i = (s.size, true)) : one s i c g = .fin := by unfold one; rw [h]; simp
theorem one_many {s : ByteArray} {i c a : Nat} {g : Bool} (h : sk s i = (a, true)) (h2 : a ≠ s.size) (h3 : c = 16384) : one s i c g = .bad 4 a := by unfold one; rw [h]; simp [h2, h3]
theorem one_err {s : ByteArray} {i c a : Nat} {g : Bool} (h : sk s i = (a, true)) (h2 : a ≠ s.size) (h3 : c ≠ 16384) (h4 : tokErr (s.extract a (tokEnd s a)) g ≠ 0) : one s i c g = .bad (tokErr (s.extract a (tokEnd s a)) g) a := by
  unfold one; rw [h]; simp only; rw [if_neg (by simp), if_neg h2, if_neg h3, if_pos h4]
theorem one_more {s : ByteArray} {i c a : Nat} {g : Bool} (h : sk s i = (a, true)) (h2 : a ≠ s.size) (h3 : c ≠ 16384) (h4 : tokErr (s.extract a (tokEnd s a)) g = 0) : one s i c g = .tok (tokOf (s.extract a (tokEnd s a)) a) (tokEnd s a) := by
  unfold one; rw [h]; simp only; rw [if_neg (by simp), if_neg h2, if_neg h3, if_neg (by rw [h4]; simp)]
theorem tok_digits {s : ByteArray} {a : Nat} (ha : a < s.size) (hk : kindM (s.extract a (tokEnd s a)) = 1) : ∀ k, k < (s.extract a (tokEnd s a)).size → dg (bt (s.extract a (tokEnd s a)) k) = true := by
  have he := tokEnd_le ha
  have hd : dg (bt (s.extract a (tokEnd s a)) 0) = true := by
    cases hd : dg (bt (s.extract a (tokEnd s a)) 0)
    · exfalso
      unfold kindM at hk
      rw [if_neg (by simp [hd])] at hk
      repeat' split at hk
      all_goals cases hk
    · rfl
  intro k hkl
  rw [ext_size he] at hkl
  rw [bt_ext he, if_pos (by omega), Nat.add_zero] at hd
  rw [bt_ext he, if_pos hkl]
  have hE : tokEnd s a = rend dg s (a + 1) := by unfold tokEnd; rw [if_pos hd]
  rw [hE] at hkl
  by_cases h0 : k = 0
  · subst h0; exact hd
  · exact (rend_spec (s := s) dg256 (a + 1)).2.1 _ (by omega) (by omega)

theorem tInfo : (Tryz.prog.info? 144).map (fun i => (i.zero, i.size, i.bytes)) = some (some (.agg #[.int .i64 0, .int .i64 0, .string ⟨#[]⟩, .int .i64 0]), 4, 40) := by kernel_rfl
def bad0 : Array Value := #[.int .i64 0, .int .i64 0, .string ⟨#[]⟩]
theorem badI (x y : Value) : (Tryz.prog.info? 120).map (·.size) = some (#[x, y, .string ⟨#[]⟩] : Array Value).size := by kernel_rfl
theorem skip_is (s : ByteArray) (i : Nat) (hi : i ≤ s.size) (hs : s.size ≤ maxLen) (w : World) (a : Nat) (b : Bool) (h : sk s i = (a, b)) : Calls Tryz.prog 114 #[.string s, .int .i64 i] w fun e w' => e = .returned (.tuple #[.int .i64 (a : Nat), .bool b]) ∧ w = w' := by
  have := skip_any s i hi hs w
  rw [h] at this
  exact this
theorem end_is (s : ByteArray) (a B : Nat) (ha : a < s.size) (hs : s.size ≤ maxLen) (w : World) (hT : Tabs w) (hc : w.cell? ⟨B, 0, none⟩ = some (.string s)) (x : Nat) (hx : tokEnd s a = x) :
    Calls Tryz.prog 130 #[.int .i64 a, .pointer (some ⟨B, 0, none⟩)] w fun e w' => e = .returned (.int .i64 (x : Nat)) ∧ w = w' := by
  subst hx; exact end_any s a B ha hs w hT hc
theorem one3 (x y : Int) : (#[Value.int .i64 x, .int .i64 y, .string ⟨#[]⟩] : Array Value).all (·.oneCell') = true := by simp [Value.oneCell']
/-- What Scan returns. -/
def ScanPost (s : ByteArray) (w : World) (e : Ending) (w' : World) : Prop :=
  ∃ (A : Option Addr) (c : Nat) (l : List Tk) (k a : Nat), e = .returned (.tuple #[.slice A l.length c, .agg #[.int .i64 k, .int .i64 a, .string ⟨#[]⟩]]) ∧ scanM s = (k, a, l) ∧ ToksAt w' w'.heap.size A l ∧ l.length ≤ c ∧ c ≤ maxLen ∧ (A = none → c = 0) ∧ Below w.heap.size w w'
/-- The state at the head of a round. -/
structure ScanAt (s : ByteArray) (w : World) (i : Nat) (acc : List Tk) (A : Option Addr) (c : Nat) (wr : World) : Prop where
  reach : Reach s i acc
  own : wr.ownsRow (w.heap.size + 2) 144 4 (.slice A acc.length c) acc.length (tkCells acc)
  row : wr.heap[w.heap.size]? = some (.cells bad0 120 (0, 0))
  str : wr.cell? ⟨w.heap.size + 1, 0, none⟩ = some (.string s)
  size : w.heap.size + 2 ≤ wr.heap.size
  below : Below w.heap.size w wr
def ScanRel (s : ByteArray) (w : World) (n : Nat) (x y : Value) (wr : World) : Prop :=
  ∃ i acc A c, n = s.size + 1 - i ∧ x = .slice A acc.length c ∧ y = .int .i64 (i : Nat) ∧ acc.length ≤ 16384 ∧ ScanAt s w i acc A c wr
theorem scan_end {s : ByteArray} {w wr : World} {i : Nat} {acc : List Tk} {A : Option Addr} {c k a : Nat} (hs : s.size ≤ 65536) (h : ScanAt s w i acc A c wr) (h1 : one s i acc.length (neg acc) = .bad k a) (wf : World) (hf : Below w.heap.size w wf) :
    ScanPost s w (.returned (.tuple #[.slice none 0 0, .agg #[.int .i64 (k : Nat), .int .i64 (a : Nat), .string ⟨#[]⟩]])) wf :=
  ⟨none, 0, [], k, a, rfl, scan_bad hs h.reach h1, ToksAt.nil, Nat.zero_le _, Nat.zero_le _, fun _ => rfl, hf⟩
theorem last_cell {w : World} {base : Nat} {e : TypeId} {A : Option Addr} {c m : Nat} {l : List Tk} (h : w.ownsRow base e 4 (.slice A l.length c) l.length (tkCells l)) (hm : l.length = m + 1) :
    ∃ g, A = some ⟨g, 0, none⟩ ∧ ∃ t, l[m]? = some t ∧ w.cell? ⟨g, m * 4 + 2, none⟩ = some (.string t.text) := by
  rcases h.2 with ⟨hv, h0⟩ | ⟨g, cap, cur, hv, _, hh, _⟩
  · omega
  · injection hv with hA
    have ht : l[m]? = some (l[m]'(by omega)) := List.getElem?_eq_getElem (by omega)
    have := h.cells (g := g) (by rw [hA]; rfl) (m * 4 + 2) _ (tkCells_get l m _ ht 2 _ (by omega) rfl)
    simp [Addr.add] at this
    exact ⟨g, hA, _, ht, this⟩
theorem keep_two {s : ByteArray} {w wr w1 : World} {i : Nat} {acc : List Tk} {A : Option Addr} {c : Nat} (h : ScanAt s w i acc A c wr) (hb : Below wr.heap.size wr w1) (o : Obj) : Below w.heap.size w (w1.alloc o) := by
  have h1 := h.size
  have h2 := hb.size
  exact (h.below.trans (hb.mono (by omega))).alloc (by omega) o
theorem own_two {s : ByteArray} {w wr w1 : World} {i : Nat} {acc : List Tk} {A : Option Addr} {c : Nat} (h : ScanAt s w i acc A c wr) (hb : Below wr.heap.size wr w1) (o o' : Obj) :
    ((w1.alloc o).alloc o').ownsRow (w.heap.size + 2) 144 4 (.slice A acc.length c) acc.length (tkCells acc) :=
  ((h.own.kept (row := none) ⟨hb.os, hb.tape, hb.output, hb.size, fun i hi _ => hb.block i hi⟩ (by cases (Value.slice A acc.length c).ownBlock <;> simp)).alloc o).alloc o'
theorem heap_new1 (w : World) (o : Obj) : (w.alloc o).heap[w.heap.size]? = some o := by
  show (w.heap.push o)[w.heap.size]? = some o
  simp only [Array.getElem?_push_size]
theorem new_cells (w : World) (cs : List Value) (t : TypeId) : ∀ j u, cs[j]? = some u → (w.alloc (.cells cs.toArray t)).cell? ((⟨w.heap.size, 0, none⟩ : Addr).add j) = some u := fun j u hu => by
  have h := heap_new1 w (.cells cs.toArray t)
  have e : (⟨w.heap.size, 0, none⟩ : Addr).add j = ⟨w.heap.size, j, none⟩ := by
    unfold Addr.add
    by_cases hj : j = 0
    · simp [hj]
    · simp [hj]
  rw [e]
  unfold World.cell?
  rw [h]
  simpa using hu
theorem scan_start (s : ByteArray) (w : World) : ScanRel s w (s.size + 1) (.slice none 0 0) (.int .i64 0) ((w.alloc (.cells #[.int .i64 0, .int .i64 0, .string ⟨#[]⟩] 120)).alloc (.cells #[.string s] 9)) := by
  refine ⟨0, [], none, 0, rfl, rfl, rfl, by simp, .start, ⟨rfl, .inl ⟨rfl, rfl⟩⟩, ?_, ?_, ?_, ?_⟩
  · rw [((Below.refl _ _).alloc (Nat.le_refl _) _).block _ (by simp)]
    exact heap_new1 w _
  · have h := new_cells (w.alloc (.cells #[.int .i64 0, .int .i64 0, .string ⟨#[]⟩] 120)) [.string s] 9 0 _ rfl
    rw [World.size_alloc] at h
    exact h
  · simp
  · exact ((Below.refl _ _).alloc (Nat.le_refl _) _).alloc (by simp) _
theorem scan_next {s : ByteArray} {w wr w1 w2 : World} {i a x : Nat} {acc : List Tk} {A : Option Addr} {c : Nat} {g : Bool} {v' : Value} {o o' : Obj} (h : ScanAt s w i acc A c wr) (hb : Below wr.heap.size wr w1) (hat : a < s.size) (haz : ¬ a = s.size) (hxs : x ≤ s.size) (hsk : sk s i = (a, true))
    (hf : ¬ acc.length = 16384) (hx : tokEnd s a = x) (hg : neg acc = g) (hk : ((tokErr (s.extract a x) g : Nat) : Int) = 0)
    (hown : w2.ownsRow (w.heap.size + 2) 144 4 v' (acc.length + 1) (tkCells acc ++ [.int .i64 ((kindM (s.extract a x) : Nat) : Int), .int .i64 a, .string (s.extract a x), .int .i64 ((tokN (s.extract a x) : Nat) : Int)]))
    (hgr : ((w1.alloc o).alloc o').grownBy w2 (Value.slice A acc.length c).ownBlock) (hlen : acc.length + 1 ≤ 16384) : ScanRel s w (s.size + 1 - x) v' (.int .i64 (x : Nat)) w2 := by
  subst hx; subst hg
  have hone := one_more hsk haz hf (g := neg acc) (by omega)
  obtain ⟨A', c', rfl⟩ := own_form4 hown
  have hl : acc.length + 1 = (acc ++ [tokOf (s.extract a (tokEnd s a)) a]).length := by simp
  have h1 := h.size
  have h2 := hb.size
  have hB : Below (w.heap.size + 2) wr w2 := (((hb.mono h1).alloc (by omega) o).alloc (by simp; omega) o').grown hgr (by simp; omega) (fun k hk => (h.own.lt k hk).1)
  refine ⟨tokEnd s a, acc ++ [tokOf (s.extract a (tokEnd s a)) a], A', c', rfl, by rw [hl], rfl, by simp; omega, .step h.reach hone, ?_, ?_, ?_, ?_, ?_⟩
  · rw [← hl, tkCells_snoc]; exact hown
  · rw [hB.block _ (by omega)]; exact h.row
  · rw [hB.cell (p := ⟨w.heap.size + 1, 0, none⟩) (by show w.heap.size + 1 < _; omega)]; exact h.str
  · have := hB.size; omega
  · exact h.below.trans (hB.mono (by omega))
theorem scan_fault {s : ByteArray} {w wr wf : World} {i a x : Nat} {acc : List Tk} {A : Option Addr} {c : Nat} {g : Bool} {k : Int} (hs : s.size ≤ 65536) (hat : a < s.size) (haz : ¬ a = s.size) (h : ScanAt s w i acc A c wr) (hsk : sk s i = (a, true)) (hf : ¬ acc.length = 16384)
    (hx : tokEnd s a = x) (hg : neg acc = g) (hk : ((tokErr (s.extract a x) g : Nat) : Int) = k) (hk0 : ¬ k = 0) (hb : Below w.heap.size w wf) :
    ScanPost s w (.returned (.tuple #[.slice none 0 0, .agg #[.int .i64 k, .int .i64 (a : Nat), .string ⟨#[]⟩]])) wf := by
  subst hx; subst hg; subst hk
  exact scan_end hs h (one_err hsk haz hf (by omega)) wf hb
theorem setRow_other {w : World} {g k : Nat} {cs : Array Value} (h : k ≠ g) : (w.setRow g cs).heap[k]? = w.heap[k]? := by
  unfold World.setRow
  simp only [Array.getElem?_modify]
  rw [if_neg (fun e => h e.symm)]
theorem neg_last {acc : List Tk} {m : Nat} {t : Tk} {y : ByteArray} (hm : acc.length = m + 1) (ht : acc[m]? = some t) (hy : t.text = y) : neg acc = (y.toList == [126]) := by
  unfold neg
  rw [List.getLast?_eq_getElem?, hm, Nat.add_sub_cancel, ht]
  simp only
  rw [hy, ByteArray.toList_eq, Bool.eq_iff_iff]; simp
theorem scan_done {s : ByteArray} {w wr : World} {i : Nat} {acc : List Tk} {A : Option Addr} {c : Nat} (hs : s.size ≤ 65536) (h : ScanAt s w i acc A c wr) (h1 : one s i acc.length (neg acc) = .fin) {cs : Array Value} :
    ScanPost s w (.returned (.tuple #[.slice A acc.length c, .agg #[.int .i64 (0 : Nat), .int .i64 (0 : Nat), .string ⟨#[]⟩]])) (wr.setRow w.heap.size cs) := by
  obtain ⟨_, h2, h3, h4⟩ := toks_own h.own
  refine ⟨A, c, acc, 0, 0, rfl, scan_fin hs h.reach h1, ?_, h3, h4, fun hA => ?_, below_setRow h.below (Nat.le_refl _) _⟩
  · intro k t hk
    rcases h.own.2 with ⟨hv, h0⟩ | ⟨g, cap, cur, hv, hg, hh, _⟩
    · have := (List.getElem?_eq_some_iff.1 hk).1; omega
    · injection hv with hA
      subst hA
      obtain ⟨ad, e, hb, hc⟩ := h2 k t hk
      cases e
      refine ⟨_, rfl, by rw [size_setRow]; exact hb, fun j u hj hu => ?_⟩
      rw [← hc j u hj hu]
      unfold World.cell?
      rw [setRow_other]
      rw [block_add]; show g ≠ _; omega
  · subst hA
    rcases h.own.2 with ⟨hv, _⟩ | ⟨g, cap, cur, hv, _⟩
    · injection hv
    · injection hv with hv; cases hv
theorem row_then {s : ByteArray} {w wr w1 : World} {i : Nat} {acc : List Tk} {A : Option Addr} {c : Nat} (h : ScanAt s w i acc A c wr) (hb : Below wr.heap.size wr w1) (o : Obj) : (w1.alloc o).heap[w.heap.size]? = some (.cells bad0 120 (0, 0)) := by
  have h1 := h.size
  have h2 := hb.size
  rw [((Below.refl w1.heap.size w1).alloc (Nat.le_refl _) o).block _ (by omega), hb.block _ (by omega)]
  exact h.row
theorem setRow_row {w : World} {g : Nat} {old cs : Array Value} {t : TypeId} {fr : Nat × Nat} (h : w.heap[g]? = some (.cells old t fr)) : (w.setRow g cs).heap[g]? = some (.cells cs t fr) := by
  unfold World.setRow
  simp only [Array.getElem?_modify, if_pos, h, Option.map_some]
theorem results_scan {tmps : Array Value} {w : World} {g : Nat} {v x y : Value} (hv : tmps.getD 2 undef = v) (hp : tmps.getD 3 undef = .pointer (some ⟨g, 0, none⟩)) (hg : w.heap[g]? = some (.cells #[x, y, .string ⟨#[]⟩] 120 (0, 0))) :
    (results Tryz.f101 tmps).run Tryz.prog w = .ok (.tuple #[v, .agg #[x, y, .string ⟨#[]⟩]]) w := by
  have hp' : tmps[3]?.getD undef = .pointer (some ⟨g, 0, none⟩) := by simpa using hp
  have hv' : tmps[2]?.getD undef = v := by simpa using hv
  simp [results, Tryz.f101, hp', hv', asAddr, run_loadVar_row w g 120 120 _ _ _ hg Tryz.underlying120 rfl (badI x y)]
set_option maxRecDepth 100000 in
set_option maxHeartbeats 4000000 in
theorem scan_short (s : ByteArray) (hs : s.size ≤ 65536) (w : World) (hT : Tabs w) : Calls Tryz.prog 101 #[.string s] w (ScanPost s w) := by
  have HT := Lib.hid hT
  clear hT
  obtain ⟨i0, hi, hz0, hz1, hz2⟩ := info_parts tInfo
  have HI := Lib.hid (And.intro hi (And.intro hz0 (And.intro hz1 hz2)))
  clear hi hz0 hz1 hz2
  have HS : Hid (s.size ≤ maxLen) := Lib.hid (by unfold maxLen; omega)
  have hl0 : ¬ (65536 : Int) < s.size := by omega
  go_enter Tryz.func101, Tryz.ntmps101
  go_wp2_with (go_at_call 113; refine (endFinder_any s _).mono ?_; rintro e w' ⟨rfl, rfl⟩)
  go_loopg [4, 6] (s.size + 1) (fun n x y wr => ScanRel s w n x y wr)
  case atStart => exact scan_start s w
  case round =>
    obtain ⟨i, acc, A, c, rfl, rfl, rfl, hacc, hat⟩ := hrel
    have HA := Lib.hid hat
    have hi := (reach_le hat.reach).1
    have hTr : Hid (Tabs wr) := Lib.hid (HT.out.on hat.below)
    have hstr := hat.str
    have hsz := hat.size
    clear hat
    obtain ⟨a, b, hsk⟩ : ∃ a b, sk s i = (a, b) := ⟨_, _, rfl⟩
    have hr := sk_range hi
    rw [hsk] at hr
    obtain ⟨ha1, ha2, _⟩ := hr
    have HK := Lib.hid hsk
    clear hsk
    simp only at ha1 ha2
    cases b with
    | false =>
      go_wp2_with (first | ((with_reducible refine (skip_is s i hi HS.out _ a _ HK.out).mono ?_); rintro e w' ⟨rfl, rfl⟩) | (refine wpList_store_row rfl 120 _ _ rfl w.heap.size #[.int .i64 12, .int .i64 a, .string ⟨#[]⟩] rfl rfl 120 bad0 HA.out.row (badI _ _) rfl (one3 _ _) ?_))
      try rw [Exit.noGoto_ret]
      refine bodyPost_ret (v := .tuple #[.slice none 0 0, .agg #[.int .i64 (12 : Nat), .int .i64 a, .string ⟨#[]⟩]]) (results_scan rfl rfl (setRow_row HA.out.row)) rfl ?_
      exact scan_end hs HA.out (one_open HK.out) _ (below_setRow HA.out.below (Nat.le_refl _) _)
    | true =>
      by_cases haz : a = s.size
      · subst haz
        go_wp2_with (first | ((with_reducible refine (skip_is s i hi HS.out _ _ _ HK.out).mono ?_); rintro e w' ⟨rfl, rfl⟩) | (refine wpList_store_row rfl 120 _ _ rfl w.heap.size #[.int .i64 0, .int .i64 0, .string ⟨#[]⟩] rfl rfl 120 bad0 HA.out.row (badI _ _) rfl (one3 _ _) ?_))
        try rw [Exit.noGoto_ret]
        refine bodyPost_ret (v := .tuple #[.slice A acc.length c, .agg #[.int .i64 (0 : Nat), .int .i64 (0 : Nat), .string ⟨#[]⟩]]) (results_scan rfl rfl (setRow_row HA.out.row)) rfl ?_
        exact scan_done hs HA.out (one_fin HK.out)
      · have hat : a < s.size := by omega
        have hne : ((a : Int) == (s.size : Int)) = false := by simp; omega
        by_cases hful : acc.length = 16384
        · have hful2 : ((acc.length : Int) == 16384) = true := by simp; omega
          have HF := Lib.hid hful
          clear hful
          go_wp2_with (first | ((with_reducible refine (skip_is s i hi HS.out _ _ _ HK.out).mono ?_); rintro e w' ⟨rfl, rfl⟩) | (refine wpList_store_row rfl 120 _ _ rfl w.heap.size #[.int .i64 4, .int .i64 a, .string ⟨#[]⟩] rfl rfl 120 bad0 HA.out.row (badI _ _) rfl (one3 _ _) ?_))
          try rw [Exit.noGoto_ret]
          refine bodyPost_ret (v := .tuple #[.slice none 0 0, .agg #[.int .i64 (4 : Nat), .int .i64 a, .string ⟨#[]⟩]]) (results_scan rfl rfl (setRow_row HA.out.row)) rfl ?_
          exact scan_end hs HA.out (one_many HK.out haz HF.out) _ (below_setRow HA.out.below (Nat.le_refl _) _)
        · have hful2 : ((acc.length : Int) == 16384) = false := by simp; omega
          have hlt := tokEnd_le hat
          have hge := tokEnd_ge (s := s) (i := a)
          obtain ⟨x, hx⟩ : ∃ x, tokEnd s a = x := ⟨_, rfl⟩
          rw [hx] at hlt hge
          have HX := Lib.hid hx
          have HF := Lib.hid hful
          clear hx
          obtain ⟨gn, hgn⟩ : ∃ gn, neg acc = gn := ⟨_, rfl⟩
          have HG := Lib.hid hgn
          clear hgn
          go_upto_region 14 with (first | ((with_reducible refine (skip_is s i hi HS.out _ _ _ HK.out).mono ?_); rintro e w' ⟨rfl, rfl⟩) | (go_at_call 130; refine (end_is s a _ hat HS.out _ hTr.out hstr x HX.out).mono ?_; rintro e w' ⟨rfl, rfl⟩))
          go_cut [9] from 42 to 54 (fun z wc => z = .bool gn ∧ wr = wc)
          case first =>
            by_cases hac : 0 < acc.length
            · obtain ⟨m, hm⟩ : ∃ m, acc.length = m + 1 := ⟨acc.length - 1, by omega⟩
              obtain ⟨g, rfl, tl, htl, hcell⟩ := last_cell HA.out.own hm
              obtain ⟨y, hy⟩ : ∃ y, tl.text = y := ⟨_, rfl⟩
              rw [hy] at hcell
              have HY := Lib.hid (neg_last hm htl hy)
              rw [show m = acc.length - 1 by omega] at hcell
              have hm1 : ((acc.length : Int) - 1).toNat = acc.length - 1 := by omega
              have hm2 : 0 ≤ (acc.length : Int) - 1 := by omega
              clear hm htl hy
              go_wp2
              go_meet
              case rel => exact ⟨by rw [← HG.out, HY.out], rfl⟩
            · have HY : Hid (neg acc = false) := Lib.hid (by rw [List.eq_nil_of_length_eq_zero (by omega : acc.length = 0)]; rfl)
              go_wp2
              go_meet
              case rel => exact ⟨by rw [← HG.out, HY.out], rfl⟩
          case rest =>
            obtain ⟨rfl, rfl⟩ := hcut
            have htd : kindM (s.extract a x) = 1 → ∀ k, k < (s.extract a x).size → dg (bt (s.extract a x) k) = true := by rw [← HX.out]; exact tok_digits hat
            have HD := Lib.hid htd
            have HZ : Hid ((s.extract a x).size ≤ maxLen) := Lib.hid (by rw [ext_size hlt]; have := HS.out; omega)
            clear htd
            go_wp2_with fail
            refine (tokenOf_any (s.extract a x) gn HZ.out HD.out _ hTr.out).mono ?_
            rintro e w1 ⟨K, n, y, k, rfl, hk, hkn, hb1⟩
            have HB1 := Lib.hid hb1
            have HKN := Lib.hid (And.intro hk hkn)
            clear hk hkn hb1
            have hz1 : wr.heap.size ≤ w1.heap.size := HB1.out.size
            by_cases hk0 : k = 0
            · subst hk0
              obtain ⟨hke, hkv⟩ := HKN.out
              have hkv := hkv rfl
              simp only [Array.mk.injEq, List.cons.injEq, Value.int.injEq, Value.string.injEq, true_and, and_true] at hkv
              obtain ⟨rfl, rfl, rfl⟩ := hkv
              have HKE := Lib.hid hke
              clear hke HKN
              obtain ⟨kk, hkk⟩ : ∃ kk : Int, ((kindM (s.extract a x) : Nat) : Int) = kk := ⟨_, rfl⟩
              obtain ⟨nn, hnn⟩ : ∃ nn : Int, ((tokN (s.extract a x) : Nat) : Int) = nn := ⟨_, rfl⟩
              rw [hkk, hnn]
              have HN := Lib.hid (And.intro hkk hnn)
              clear hkk hnn
              have hlen : acc.length + 1 ≤ 16384 := by omega
              go_wp2_with (at_builtin; refine wpList_append_own _ rfl _ _ 139 rfl (w.heap.size + 2) 144 i0 (.agg #[.int .i64 0, .int .i64 0, .string ⟨#[]⟩, .int .i64 0]) 4 40 Tryz.underlying139 HI.out.1 HI.out.2.1 HI.out.2.2.1 HI.out.2.2.2 rfl (by decide) _ _ _ rfl (own_two HA.out HB1.out _ _) ⟨w1.heap.size + 1, 0, none⟩ 1 1 [.int .i64 kk, .int .i64 a, .string (s.extract a x), .int .i64 nn] rfl rfl ?c1 ?c2 ?c3 ?c4 ?c5 ?_)
              case c1 =>
                have h := new_cells (w1.alloc (Obj.cells #[.int .i64 kk, .int .i64 a, .string (s.extract a x), .int .i64 nn] 144)) [.int .i64 kk, .int .i64 a, .string (s.extract a x), .int .i64 nn] 144
                rw [World.size_alloc] at h
                exact h
              case c2 => simp [Value.oneCell']
              case c3 => unfold maxLen; omega
              case c4 => omega
              case c5 => simp; omega
              intro v' w2 hown2 hgrow _
              have HO := Lib.hid (And.intro hown2 hgrow)
              clear hown2 hgrow
              go_wp2
              go_roundg (s.size + 1 - x)
              case rel =>
                obtain ⟨rfl, rfl⟩ := HN.out
                exact scan_next HA.out HB1.out hat haz hlt HK.out HF.out HX.out HG.out HKE.out HO.out.1 HO.out.2 hlen
              case measure =>
                have := tokErr_pos (t := s.extract a x) (g := gn) (by have := HKE.out; omega)
                rw [ext_size hlt] at this
                omega
            · have hk1 : (k != 0) = true := by simpa using hk0
              have HK1 := Lib.hid hk0
              clear hk0
              go_wp2_with (refine wpList_store_row rfl 120 _ _ rfl w.heap.size #[.int .i64 k, .int .i64 a, .string ⟨#[]⟩] rfl rfl 120 bad0 (row_then HA.out HB1.out _) (badI _ _) rfl (one3 _ _) ?_)
              try rw [Exit.noGoto_ret]
              refine bodyPost_ret (v := .tuple #[.slice none 0 0, .agg #[.int .i64 k, .int .i64 a, .string ⟨#[]⟩]]) (results_scan rfl rfl (setRow_row (row_then HA.out HB1.out _))) rfl ?_
              exact scan_fault hs hat haz HA.out HK.out HF.out HX.out HG.out HKN.out.1 HK1.out (below_setRow (keep_two HA.out HB1.out _) (Nat.le_refl _) _)
theorem scan_any (s : ByteArray) (hsz : s.size ≤ maxLen) (w : World) (hT : Tabs w) : Calls Tryz.prog 101 #[.string s] w (ScanPost s w) := by
  by_cases hs : s.size ≤ 65536
  · exact scan_short s hs w hT
  have hl0 : (65536 : Int) < s.size := by omega
  have HM := Lib.hid (scan_long (s := s) (by omega))
  clear hT hs
  unfold maxLen at hsz
  go_enter Tryz.func101, Tryz.ntmps101
  go_wp2
  refine bodyPost_ret (v := .tuple #[.slice none 0 0, .agg #[.int .i64 4, .int .i64 0, .string ⟨#[]⟩]]) (results_scan rfl rfl (heap_new1 _ _)) rfl ?_
  exact ⟨none, 0, [], 4, 0, rfl, HM.out, ToksAt.nil, Nat.zero_le _, Nat.zero_le _, fun _ => rfl, (Below.refl _ _).alloc (Nat.le_refl _) _⟩
end Go.Proofs.YtoopopjcojphaaaGreatDoor.Lx
