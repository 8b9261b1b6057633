import Derived.Test.YtoopopjcojphaaaGreatDoorQD
import Derived.Test.YtoopopjcojphaaaGreatDoorQA
import Derived.Laws.Rows
import Derived.Test.YtoopopjcojphaaaGreatDoorQH
import Derived.Deep.DeepCutAuto
import Derived.Test.YtoopopjcojphaaaGreatDoorQG
/-
  THE REFERENCE's place, Vars, SameInts; the law's Formed.
-/
namespace Go.Proofs.YtoopopjcojphaaaGreatDoor
open Go.ChangeShapes Go.WideShapes Go.ChangeAt Go.RowKit
set_option linter.unusedVariables false
theorem idx_le {x : Int} : ∀ {vs : List Int} {k : Nat} (hk : k < vs.length), vs[k] = x → vs.idxOf x ≤ k
  | [], k, hk, _ => by simp at hk
  | a :: r, k, hk, hx => by
    rw [List.idxOf_cons]
    by_cases ha : a = x
    · simp [ha]
    · cases k with
      | zero => exact absurd hx ha
      | succ k =>
        have := idx_le (vs := r) (k := k) (by simpa using hk) (by simpa using hx)
        rw [show (a == x) = false by simpa using ha]
        simp; omega
theorem idx_take {vs : List Int} {x : Int} {k : Nat} (hk : k < vs.length) (hno : ∀ i (h : i < vs.length), i < k → vs[i] ≠ x) (hx : vs[k] = x) : placeR vs x = k := by
  have hm : x ∈ vs := hx ▸ List.getElem_mem hk
  unfold placeR
  rw [if_pos hm]
  have h1 := List.idxOf_lt_length_of_mem hm
  have h2 : vs[vs.idxOf x] = x := List.getElem_idxOf h1
  rcases Nat.lt_trichotomy (vs.idxOf x) k with h | h | h
  · exact absurd h2 (hno _ h1 h)
  · rw [h]
  · have := idx_le hk hx; omega
theorem idx_none {vs : List Int} {x : Int} (hno : ∀ i (h : i < vs.length), vs[i] ≠ x) : placeR vs x = -1 := by
  unfold placeR
  rw [if_neg]
  intro hm
  obtain ⟨i, hi, he⟩ := List.getElem_of_mem hm
  exact hno i hi he
theorem place_any (vs : List Int) (x : Int) (A : Option Addr) (c : Nat) (hl : vs.length ≤ 1048576) (w : World) (B : Nat) (h : IntsAt w B A vs) :
    Calls Tryz.prog 59 #[.slice A vs.length c, .int .i64 x] w fun e w' => e = .returned (.int .i64 (placeR vs x)) ∧ w = w' := by
  have HA := Lib.hid h
  clear h
  go_enter Tryz.func59, Tryz.ntmps59
  go_wp2
  go_loop [5] (fun z => ∃ k : Nat, k ≤ vs.length ∧ z = .int .i64 k ∧ ∀ i (h : i < vs.length), i < k → vs[i] ≠ x) (fun z => vs.length - (intOf z).toNat)
  case atStart => exact ⟨0, Nat.zero_le _, rfl, fun i _ h => absurd h (Nat.not_lt_zero _)⟩
  case round =>
    obtain ⟨k, hk, rfl, hno⟩ := hrel
    have HN := Lib.hid hno
    clear hno
    by_cases hlt : k < vs.length
    · obtain ⟨ad, rfl, _, hc⟩ := HA.out.at_ hlt
      by_cases he : vs[k] = x
      · have q : (vs[k] == x) = true := by simpa using he
        have HE := Lib.hid he
        clear he
        go_wp2
        go_ret
        exact ⟨ret_int (idx_take hlt HN.out HE.out).symm, rfl⟩
      · have q : (vs[k] == x) = false := by simpa using he
        have HE := Lib.hid he
        clear he
        go_wp2
        go_round
        case rel => exact ⟨k + 1, by omega, by go_num, fun i hi hik => by
          by_cases e : i = k
          · subst e; exact HE.out
          · exact HN.out i hi (by omega)⟩
        case measure => simp [intOf]; omega
    · obtain rfl : k = vs.length := by omega
      go_wp2
      go_ret
      exact ⟨ret_int (idx_none fun i hi => HN.out i hi hi).symm, rfl⟩
end Go.Proofs.YtoopopjcojphaaaGreatDoor
/-
  THE REFERENCE's Vars, Put, renamed, Canon.
-/
namespace Go.Proofs.YtoopopjcojphaaaGreatDoor
open Go.ChangeShapes Go.WideShapes Go.ChangeAt Go.RowKit
set_option linter.unusedVariables false
theorem placeR_neg {vs : List Int} {x : Int} : placeR vs x < 0 ↔ x ∉ vs := by
  unfold placeR
  split <;> simp_all
theorem vstep_yes {vs : List Int} {t : Tt} (h1 : t.kind = 1) (h2 : t.num ∉ vs) : (vstep vs t).1 = vs ++ [t.num] := by unfold vstep; simp only; rw [if_pos ⟨h1, h2⟩]
theorem vstep_no {vs : List Int} {t : Tt} (h : ¬ (t.kind = 1 ∧ t.num ∉ vs)) : (vstep vs t).1 = vs := by unfold vstep; simp only; rw [if_neg h]
/-- At the head of a round of the reference's Vars. -/
structure VarAt (w1 : World) (base : Nat) (vs : List Int) (v : Value) (wr : World) : Prop where
  own : wr.ownsRow base 3 1 v vs.length (cells vs)
  below : Below base w1 wr
theorem var_next {w1 wr w2 : World} {vs : List Int} {x : Int} {v v' : Value} (h : VarAt w1 w1.heap.size vs v wr) (hown : w2.ownsRow w1.heap.size 3 1 v' (vs.length + 1) (cells vs ++ [.int .i64 x])) (hg : (wr.alloc (.cells #[.int .i64 x] 3)).grownBy w2 v.ownBlock) :
    VarAt w1 w1.heap.size (vs ++ [x]) v' w2 := by
  refine ⟨by rw [List.length_append, cells_app]; exact hown, ?_⟩
  have hz := h.below.size
  refine (h.below.trans ((below_new wr (.cells #[.int .i64 x] 3)).mono hz)).grown hg (by simp; omega) fun k hk => (h.own.lt k hk).1
set_option maxRecDepth 100000 in
set_option maxHeartbeats 2000000 in
theorem rvars_any (d : Nat) (k n : Int) (s : ByteArray) (l : List Tt) (A : Option Addr) (c : Nat) (w : World) (S : Nat → Prop) (hS : ∀ b, S b → b < w.heap.size) (hfew : (pre (.mk k n s l)).length ≤ 1048576) (h : TyRd w S d (.mk k n s l) [.int .i64 k, .int .i64 n, .string s, .slice A l.length c]) :
    Calls Tryz.prog 34 #[.agg #[.int .i64 k, .int .i64 n, .string s, .slice A l.length c]] w (IntsMade w (varsT (.mk k n s l))) := by
  have hb0 := below_new w (.cells #[.int .i64 k, .int .i64 n, .string s, .slice A l.length c] 25)
  have HC := Lib.hid (ofTy_any 0 d k n s l A c (w.alloc (.cells #[.int .i64 k, .int .i64 n, .string s, .slice A l.length c] 25)) S (fun b hb => by have := hS b hb; simp; omega) hfew (h.keep (Same.of_below hb0 hS)))
  have HB0 := Lib.hid hb0
  have HS := Lib.hid hS
  have HF : Hid (varsT (.mk k n s l) = (scan vstep [] (pre (.mk k n s l))).1) := Lib.hid rfl
  have HFEW := Lib.hid hfew
  clear h hb0 hS hfew
  generalize pre (.mk k n s l) = P at *
  go_enter Tryz.func34, Tryz.ntmps34
  go_wp2_with fail
  refine HC.out.mono ?_
  rintro e w1 ⟨A1, c1, rows, rfl, ho, hb1⟩
  have hbw : Below w.heap.size w w1 := below_then HB0.out hb1
  have HR := Lib.hid (ho.rows)
  have HBW := Lib.hid hbw
  have hwz : w.heap.size ≤ w1.heap.size := hbw.size
  clear ho hb1 hbw
  have hPl := HFEW.out
  go_wp2
  go_loopw [3, 5] (fun v z wr => ∃ j : Nat, j ≤ P.length ∧ z = .int .i64 j ∧ VarAt w1 w1.heap.size (scan vstep [] (P.take j)).1 v wr) (fun _ z _ => P.length - (intOf z).toNat)
  case atStart => exact ⟨0, Nat.zero_le _, rfl, World.ownsRow_nil _ _ _ _, Below.refl _ _⟩
  case round =>
    obtain ⟨j, hj, rfl, hat⟩ := hrel
    have HAT := Lib.hid hat
    have hvl : (scan vstep [] (P.take j)).1.length ≤ 1048576 := by
      have := vscan_le (P.take j) []
      have h2 : (P.take j).length ≤ P.length := List.length_take_le' _ _
      simp at this; omega
    obtain ⟨A5, c5, hv⟩ := own_form hat.own
    clear hat
    by_cases hlt : j < P.length
    · obtain ⟨b, o, cs, rfl, hSb, hr, hd⟩ := HR.out.at_ hlt
      obtain ⟨A2, c2, hr2, hd2⟩ := nd_part hr hd
      obtain ⟨hn2, _, _⟩ := TyR.bounds hd2
      have hblt : b < w1.heap.size := by
        rcases hSb with hx | hx
        · have h1 := HS.out b hx; omega
        · exact hx.2
      have hvl1 : (scan vstep [] (P.take j)).1.length + 1 ≤ 1048576 := by
        have := vscan_le (P.take j) []
        rw [List.length_take] at this
        simp at this; omega
      have HST := Lib.hid (vstep_take hlt)
      generalize P[j] = x at *
      generalize (scan vstep [] (P.take j)).1 = vs at *
      subst hv
      have HRG : Hid (∀ W', Below w1.heap.size w1 W' → W'.cell? ⟨b, o + j * 47 + 22, none⟩ = some (.int .i64 x.kind) ∧ W'.cell? ⟨b, o + j * 47 + 22 + 1, none⟩ = some (.int .i64 x.num)) := Lib.hid fun W' h => ⟨range_keep hr2 h hblt 0 _ rfl, range_keep hr2 h hblt 1 _ rfl⟩
      obtain ⟨q0, q1⟩ := HRG.out wr HAT.out.below
      have HI : Hid (IntsAt wr wr.heap.size A5 vs) := Lib.hid (ints_own HAT.out.own).2.1
      clear hr hd hr2 hd2 hSb
      by_cases hk : x.kind = 1
      · have e1 : (x.kind == 1) = true := by simpa using hk
        have HK := Lib.hid hk
        clear hk
        by_cases hm : x.num ∈ vs
        · have e2 : ¬ placeR vs x.num < 0 := fun h => placeR_neg.1 h hm
          have e2 : decide (placeR vs x.num < 0) = false := by simpa using e2
          have HN := Lib.hid (vstep_no (vs := vs) (t := x) fun h => h.2 hm)
          clear hm
          go_wp2_with (go_at_call 59; refine (place_any vs x.num A5 c5 hvl _ _ HI.out).mono ?_; rintro e w' ⟨rfl, rfl⟩)
          go_roundw
          case rel => exact ⟨j + 1, by omega, by go_num, by rw [HST.out, HN.out]; exact HAT.out⟩
          case measure => simp [intOf]; omega
        · have e2 : placeR vs x.num < 0 := placeR_neg.2 hm
          have e2 : decide (placeR vs x.num < 0) = true := by simpa using e2
          have HN := Lib.hid (vstep_yes HK.out hm)
          clear hm
          obtain ⟨i0, hi, hi0, hi1, hi2⟩ := info_parts intInfo
          have HI0 := Lib.hid (And.intro hi (And.intro hi0 (And.intro hi1 hi2)))
          clear hi hi0 hi1 hi2
          have HO := Lib.hid (HAT.out.own.alloc (.cells #[.int .i64 x.num] 3))
          have hwr : w1.heap.size ≤ wr.heap.size := HAT.out.below.size
          go_wp2_with (first
            | (go_at_call 59; refine (place_any vs x.num A5 c5 hvl _ _ HI.out).mono ?_; rintro e w' ⟨rfl, rfl⟩)
            | (at_builtin; refine wpList_append_own_at _ rfl (.tmp 32) (.tmp 39) 26 rfl w1.heap.size 3 i0 (.int .i64 0) 1 8 Tryz.underlying26 HI0.out.1 HI0.out.2.1 HI0.out.2.2.1 HI0.out.2.2.2 rfl (by decide) (.slice A5 vs.length c5) vs.length (cells vs) rfl HO.out ⟨wr.heap.size, 0, none⟩ 1 1 [.int .i64 x.num] rfl rfl ?c1 ?c2 ?c3 ?c4 ?c5 ?_))
          case c1 => exact new_cells wr [.int .i64 x.num] 3
          case c2 => simp [Value.oneCell']
          case c3 => unfold maxLen; omega
          case c4 => omega
          case c5 => simp; omega
          intro v' w2 hown2 hgrow _ _
          obtain ⟨A4, n4, c4, rfl⟩ := own_slice hown2
          have HX := Lib.hid (And.intro hown2 hgrow)
          clear hown2 hgrow
          go_wp2
          go_roundw
          case rel => exact ⟨j + 1, by omega, by go_num, by rw [HST.out, HN.out]; exact var_next HAT.out HX.out.1 HX.out.2⟩
          case measure => simp [intOf]; omega
      · have e1 : (x.kind == 1) = false := by simpa using hk
        have HN := Lib.hid (vstep_no (vs := vs) (t := x) fun h => hk h.1)
        clear hk
        go_wp2
        go_roundw
        case rel => exact ⟨j + 1, by omega, by go_num, by rw [HST.out, HN.out]; exact HAT.out⟩
        case measure => simp [intOf]; omega
    · obtain rfl : j = P.length := by omega
      rw [List.take_length] at *
      subst hv
      go_wp2
      go_ret
      rw [HF.out]
      obtain ⟨_, f2, f3, f4⟩ := ints_own HAT.out.own
      exact ⟨A5, c5, rfl, f2, f3, f4, fun ad e => by subst e; have := (HAT.out.own.lt _ rfl).1; omega, HBW.out.trans (HAT.out.below.mono hwz)⟩
theorem placeR_in {vs : List Int} (h : vs.length ≤ 1048576) {n : Int} : -9223372036854775808 ≤ placeR vs n ∧ placeR vs n ≤ 9223372036854775807 := by
  unfold placeR
  split
  · rename_i hm
    have := List.idxOf_lt_length_of_mem hm
    omega
  · omega
def CanonMade8 (w : World) (t : Tt) (vs : List Int) (e : Ending) (w' : World) : Prop := ∃ v A c, e = .returned (.tuple #[v, .slice A vs.length c]) ∧ Val w' t v ∧ IntsAt w' w'.heap.size A vs ∧ vs.length ≤ c ∧ Below w.heap.size w w'
end Go.Proofs.YtoopopjcojphaaaGreatDoor
/-
  SMALL LAWS OF WALKS. Nothing of the program is named here.
-/
namespace Go.Proofs.YtoopopjcojphaaaGreatDoor
open Go.ChangeShapes Go.WideShapes Go.ChangeAt Go.RowKit
/-- A row is loaded by an operation whose guard says yes. -/
theorem wpList_load_row_yes {P : Program} {ops : Array Oper} {rest : List Oper} {o : Oper} {a : Act} {w : World} {Q : Exit → Act → World → Prop} (hgd : Region.wanted o (yielded ops a.tmps) = true) (ty : TypeId) (x : Operand) (ho : o.op = .load ty x)
    (g : Nat) (hx : a.eval x = .pointer (some ⟨g, 0, none⟩)) (t : TypeId) (cs : Array Value) (fr : Nat × Nat) (d : TypeDesc) (hg : w.heap[g]? = some (.cells cs t fr))
    (hu : P.underlying ty = some d) (hd : (match d with | .struct _ | .array _ _ => true | _ => false) = true) (hi : (P.info? ty).map (·.size) = some cs.size)
    (h : wpList P ops Q rest (a.put o.dst (.agg cs)) w) : wpList P ops Q (o :: rest) a w := by
  unfold wpList
  rw [if_pos hgd]
  exact .inl (wp_load_row ty x ho g hx t cs fr d hg hu hd hi h)
end Go.Proofs.YtoopopjcojphaaaGreatDoor
/-
  THE REFERENCE's Size AND Right OF A TYPE; every name in a type that is read is answered as the reference does.
-/
namespace Go.Proofs.YtoopopjcojphaaaGreatDoor
open Go.ChangeShapes Go.WideShapes Go.ChangeAt Go.RowKit
set_option linter.unusedVariables false
theorem row_on {w w' : World} {g : Nat} {o : Obj} (h : w.heap[g]? = some o) (hb : Below w.heap.size w w') : w'.heap[g]? = some o := (hb.block _ (lt_of_cells h)).trans h
mutual
theorem ok_name : ∀ (d : Nat) {w : World} {S : Nat → Prop} (t : Tt) (cs : List Value), TyRd w S d t cs → ∀ u ∈ pre t, u.name.size ≤ 1048576
  | 0, _, _, _, _, h => h.elim
  | d + 1, w, S, .mk k n s l, cs, h => by
    obtain ⟨A, c, _, _, _, h2, h3⟩ := h
    intro u hu
    rw [pre, List.mem_cons] at hu
    rcases hu with rfl | hu
    · exact h2
    · exact ok_nameL d l (fun t ht => by
        obtain ⟨i, hi, rfl⟩ := List.getElem_of_mem ht
        obtain ⟨b, o, cs', _, _, _, hd⟩ := h3 i _ (List.getElem?_eq_getElem hi)
        exact ⟨cs', hd⟩) u hu
theorem ok_nameL : ∀ (d : Nat) {w : World} {S : Nat → Prop} (l : List Tt), (∀ t ∈ l, ∃ cs, TyRd w S d t cs) → ∀ u ∈ preL l, u.name.size ≤ 1048576
  | _, _, _, [], _ => by simp [preL]
  | d, w, S, t :: l, h => by
    intro u hu
    rw [preL, List.mem_append] at hu
    rcases hu with hu | hu
    · obtain ⟨cs, hd⟩ := h t (List.mem_cons_self ..)
      exact ok_name d t cs hd u hu
    · exact ok_nameL d l (fun t' ht => h t' (List.mem_cons_of_mem _ ht)) u hu
end
section
variable {w : World} {a : Tt} {x : Value}
theorem rsize_val (ha : Val w a x) (hsz : (pre a).length ≤ 1048576) : Calls Tryz.prog 56 #[x] w fun e w' => e = .returned (.int .i64 ((pre a).length : Nat)) ∧ Below w.heap.size w w' := by
  obtain ⟨A, c, rfl, d, hd⟩ := ha
  obtain ⟨k, n, s, l⟩ := a
  have HO := Lib.hid (ofTy_any 0 d k n s l A c (w.alloc (.cells #[.int .i64 k, .int .i64 n, .string s, .slice A l.length c] 25)) _ (fun _ h => h) hsz (TyRd.more (fun b hb => Nat.lt_of_lt_of_le hb (below_new _ _).size) _ _ _ (TyRd.keep (Same.of_below (below_new w _) fun b hb => hb) _ _ _ hd)))
  generalize pre (.mk k n s l) = P at *
  clear hd
  go_enter Tryz.func56, Tryz.ntmps56
  go_wp2_with (go_at_call 58; refine HO.out.mono ?_; rintro e w1 ⟨A1, c1, rows, rfl, ho, hb⟩; have HB := Lib.hid hb; clear hb ho)
  go_ret
  exact ⟨rfl, below_then (below_new _ _) HB.out⟩
theorem rright_val (ha : Val w a x) (hsz : (pre a).length ≤ 1048576) : Calls Tryz.prog 33 #[x] w fun e w' => e = .returned (.bool (rightT a)) ∧ Below w.heap.size w w' := by
  have HA := Lib.hid ha
  obtain ⟨A, c, rfl, _⟩ := ha
  obtain ⟨k, n, s, l⟩ := a
  simp only [Tt.kind, Tt.num, Tt.name, Tt.args] at HA ⊢
  obtain ⟨w0, hw0⟩ : ∃ w0, w0 = w.alloc (.cells #[.int .i64 k, .int .i64 n, .string s, .slice A l.length c] 25) := ⟨_, rfl⟩
  have hb0 : Below w.heap.size w w0 := by rw [hw0]; exact below_new _ _
  have hg0 : w0.heap[w.heap.size]? = some (.cells #[.int .i64 k, .int .i64 n, .string s, .slice A l.length c] 25 (0, 0)) := by rw [hw0]; exact heap_alloc_new _ _
  have HT := Lib.hid (HA.out.on hb0)
  have HB := Lib.hid hb0
  have HG0 := Lib.hid hg0
  have HW0 := Lib.hid hw0
  have HR : Hid (rightT (.mk k n s l) = (decide ((pre (.mk k n s l)).length ≤ 256) && formedT (.mk k n s l))) := Lib.hid rfl
  have HF := Lib.hid (fun W (h : Val W (.mk k n s l) (.agg #[.int .i64 k, .int .i64 n, .string s, .slice A l.length c])) => formed_val h hsz)
  have HS := Lib.hid (fun W (h : Val W (.mk k n s l) (.agg #[.int .i64 k, .int .i64 n, .string s, .slice A l.length c])) => rsize_val h hsz)
  generalize rightT (.mk k n s l) = r at *
  generalize (pre (.mk k n s l)).length = N at *
  generalize formedT (.mk k n s l) = f at *
  clear hb0 hg0 hw0
  by_cases hle : N ≤ 256
  case neg =>
    have q : ¬ ((N : Int) ≤ 256) := by omega
    go_enter Tryz.func33, Tryz.ntmps33
    go_upto_region 1 with fail
    rw [← HW0.out]
    go_wp2_with (refine wpList_load_row rfl 25 _ rfl w.heap.size rfl 25 #[.int .i64 k, .int .i64 n, .string s, .slice A l.length c] (0, 0) _ HG0.out Tryz.underlying25 rfl (tySizeA _ _ _ _) ?_)
    refine (HS.out _ HT.out).mono ?_
    rintro e w1 ⟨rfl, hb⟩
    have HB := Lib.hid (below_then HB.out hb)
    clear hb
    go_wp2
    go_ret
    exact ⟨ret_bool (by rw [HR.out, decide_eq_false hle]; rfl), HB.out⟩
  have q : (N : Int) ≤ 256 := by omega
  go_enter Tryz.func33, Tryz.ntmps33
  go_upto_region 1 with fail
  rw [← HW0.out]
  go_wp2_with (refine wpList_load_row rfl 25 _ rfl w.heap.size rfl 25 #[.int .i64 k, .int .i64 n, .string s, .slice A l.length c] (0, 0) _ HG0.out Tryz.underlying25 rfl (tySizeA _ _ _ _) ?_)
  refine (HS.out _ HT.out).mono ?_
  rintro e w1 ⟨rfl, hb⟩
  have HT := Lib.hid (HT.out.on hb)
  have HG0 := Lib.hid (row_on HG0.out hb)
  have HB := Lib.hid (below_then HB.out hb)
  clear hb
  go_wp2_with (refine wpList_load_row_yes (by kernel_rfl) 25 _ rfl w.heap.size rfl 25 #[.int .i64 k, .int .i64 n, .string s, .slice A l.length c] (0, 0) _ HG0.out Tryz.underlying25 rfl (tySizeA _ _ _ _) ?_)
  refine (HF.out _ HT.out).mono ?_
  rintro e w2 ⟨rfl, hb⟩
  have HB := Lib.hid (below_then HB.out hb)
  clear hb
  go_wp2
  go_ret
  exact ⟨ret_bool (by rw [HR.out, decide_eq_true hle]; rfl), HB.out⟩
theorem low_all (ha : Val w a x) : ∀ u ∈ pre a, LowOk u := by
  obtain ⟨A, c, rfl, d, hd⟩ := ha
  intro u hu _ _ _
  exact lowIs _ (ok_name d _ _ hd u hu)
end
end Go.Proofs.YtoopopjcojphaaaGreatDoor
/-
  CONTRACTS OF THE REFERENCE's SCHEMES, I: how many nodes, membership, level, sizes.
-/
namespace Go.Proofs.YtoopopjcojphaaaGreatDoor
open Go.ChangeShapes Go.WideShapes Go.ChangeAt Go.RowKit
set_option linter.unusedVariables false
theorem right_same (t : Tt) : rightT t = rightT' t := rfl
set_option maxHeartbeats 1000000 in
theorem few_any : ∀ (d : Nat) (k n : Int) (s : ByteArray) (l : List Tt) (A : Option Addr) (c : Nat) (w : World) (S : Nat → Prop), (∀ b, S b → b < w.heap.size) → TyRd w S d (.mk k n s l) [.int .i64 k, .int .i64 n, .string s, .slice A l.length c] →
    ∀ left deep : Int, -1 ≤ left → left ≤ 1000 → 0 ≤ deep → deep ≤ 131 →
    Calls Tryz.prog 47 #[.agg #[.int .i64 k, .int .i64 n, .string s, .slice A l.length c], .int .i64 left, .int .i64 deep] w fun e w' => (∃ r : Int, e = .returned (.int .i64 r) ∧ -1 ≤ r ∧ r ≤ 1000) ∧ Below w.heap.size w w' := by
  intro d
  induction d with
  | zero => intro k n s l A c w S _ h; exact h.elim
  | succ d ih =>
    intro k n s l A c w S hS h left deep hl0 hl1 hd0 hd1
    obtain ⟨A', c', hcs, hn, hl, hs, hk⟩ := h
    simp only [List.cons.injEq, Value.slice.injEq, and_true, true_and] at hcs
    obtain ⟨rfl, rfl⟩ := hcs
    have HK := Lib.hid hk
    have HS := Lib.hid hS
    have HIH := Lib.hid ih
    have hq : (0 : Int) ≤ (s.size : Int) / 100 ∧ (s.size : Int) / 100 ≤ 10486 := by omega
    have HB := Lib.hid (below_new w (.cells #[.int .i64 k, .int .i64 n, .string s, .slice A l.length c] 25))
    have ht : (s.size : Int).tdiv 100 = (s.size : Int) / 100 := Int.tdiv_eq_ediv_of_nonneg (by omega)
    clear hk hS ih
    by_cases hdeep : deep > 130
    · go_enter Tryz.func47, Tryz.ntmps47
      go_wp2
      all_goals go_ret
      all_goals exact ⟨⟨_, rfl, by omega, by omega⟩, HB.out⟩
    · by_cases hf0 : left - 1 - (s.size : Int) / 100 < 0
      · go_enter Tryz.func47, Tryz.ntmps47
        go_wp2
        go_ret
        exact ⟨⟨_, rfl, by omega, by omega⟩, HB.out⟩
      go_enter Tryz.func47, Tryz.ntmps47
      go_wp2
      go_loopw [1, 24] (fun y z wr => ∃ (j : Nat) (r : Int), j ≤ l.length ∧ y = .int .i64 r ∧ 0 ≤ r ∧ r ≤ 1000 ∧ z = .int .i64 j ∧ Below w.heap.size w wr ∧ wr.heap[w.heap.size]? = some (.cells #[.int .i64 k, .int .i64 n, .string s, .slice A l.length c] 25 (0, 0))) (fun _ z _ => l.length - (intOf z).toNat)
      case atStart => exact ⟨0, _, Nat.zero_le _, rfl, by omega, by omega, rfl, HB.out, heap_alloc_new _ _⟩
      case round =>
        obtain ⟨j, r, hj, rfl, hr0, hr1, rfl, hbw, hbx⟩ := hrel
        have HBW := Lib.hid hbw
        have HBX := Lib.hid hbx
        have hz := hbw.size
        have q0 : wr.cell? ⟨w.heap.size, 3, none⟩ = some (.slice A l.length c) := by rw [cell_of_row wr _ 3 _ _ _ hbx]; rfl
        have hltx := lt_of_cells hbx
        clear hbw hbx
        by_cases hlt : j < l.length
        · obtain ⟨b, o, cs, rfl, hSb, hr, hd⟩ := HK.out j _ (List.getElem?_eq_getElem hlt)
          generalize l[j] = x at *
          obtain ⟨k2, n2, s2, l2⟩ := x
          cases d with
          | zero => exact hd.elim
          | succ d =>
          have hd0' := hd
          obtain ⟨A2, c2, rfl, _⟩ := hd
          have HR : Hid (wr.rangeAt b (o + j * 4) [.int .i64 k2, .int .i64 n2, .string s2, .slice A2 l2.length c2]) := Lib.hid (range_same hr (Same.of_below HBW.out HS.out) hSb)
          have HD := Lib.hid (HIH.out k2 n2 s2 l2 A2 c2 wr S (fun b hb => by have := HS.out b hb; omega) (hd0'.keep (Same.of_below HBW.out HS.out)) r (deep + 1) (by omega) hr1 (by omega) (by omega))
          clear hr hd0'
          go_wp2_with (refine wpList_load_mid rfl 25 _ rfl b (o + j * 4) rfl _ _ HR.out Tryz.underlying25 rfl (tySize _ _ _ _) ?_)
          refine HD.out.mono ?_
          rintro e w1 ⟨⟨r1, rfl, h1, h2⟩, hb1⟩
          have HB1 := Lib.hid (HBW.out.trans (hb1.mono hz))
          have HX1 := Lib.hid (row_on HBX.out hb1)
          clear hb1
          go_wp2
          · go_ret
            exact ⟨⟨_, rfl, by omega, by omega⟩, HB1.out⟩
          go_roundw
          case rel => exact ⟨j + 1, r1, by omega, rfl, by omega, h2, by go_num, HB1.out, HX1.out⟩
          case measure => simp [intOf]; omega
        · obtain rfl : j = l.length := by omega
          go_wp2
          go_ret
          exact ⟨⟨_, rfl, by omega, hr1⟩, HBW.out⟩
end Go.Proofs.YtoopopjcojphaaaGreatDoor
/-
  CONTRACTS OF SCHEMES, II: schemes as values, Right, few, membership, levels, names of variables.
-/
namespace Go.Proofs.YtoopopjcojphaaaGreatDoor
open Go.ChangeShapes Go.WideShapes Go.ChangeAt Go.RowKit
set_option linter.unusedVariables false
theorem wpList_load_mid_yes {P : Program} {ops : Array Oper} {rest : List Oper} {op : Oper} {a : Act} {w : World} {Q : Exit → Act → World → Prop} (hgd : Region.wanted op (yielded ops a.tmps) = true) (ty : TypeId) (x : Operand) (ho : op.op = .load ty x)
    (b o : Nat) (hx : a.eval x = .pointer (some ⟨b, o, none⟩)) (cs : List Value) (d : TypeDesc) (hc : w.rangeAt b o cs)
    (hu : P.underlying ty = some d) (hd : d.isRow = true) (hi : (P.info? ty).map (·.size) = some cs.length)
    (h : wpList P ops Q rest (a.put op.dst (.agg cs.toArray)) w) : wpList P ops Q (op :: rest) a w := by
  unfold wpList
  rw [if_pos hgd]
  exact .inl (wp_load_mid ty x ho b o hx cs d hc hu hd hi h)
theorem range_tail {w : World} {g : Nat} {v : Value} {t : TypeId} {cs : List Value} {fr : Nat × Nat} (h : w.heap[g]? = some (.cells (v :: cs).toArray t fr)) : w.rangeAt g 1 cs := fun j u hj => by
  rw [cell_of_row w g (1 + j) _ _ _ h, Nat.add_comm]; simpa using hj
/-- The value x reads as the scheme of v and t. -/
def SVal (w : World) (v : Int) (t : Tt) (x : Value) : Prop := ∃ A c, x = .agg #[.int .i64 v, .int .i64 t.kind, .int .i64 t.num, .string t.name, .slice A t.args.length c] ∧ TyR.rd w (Lt w.heap.size) t [.int .i64 t.kind, .int .i64 t.num, .string t.name, .slice A t.args.length c] ∧ (-9223372036854775808 ≤ v ∧ v ≤ 9223372036854775807)
theorem SVal.on {w w' : World} {v : Int} {t : Tt} {x : Value} (h : SVal w v t x) (hb : Below w.heap.size w w') : SVal w' v t x := by
  obtain ⟨A, c, rfl, h, hv⟩ := h
  exact ⟨A, c, rfl, TyR.more (S := Lt w.heap.size) (fun b hB => Nat.lt_of_lt_of_le hB hb.size) (TyR.keep (Same.lt hb) h), hv⟩
theorem SVal.ty {w : World} {v k n : Int} {s : ByteArray} {l : List Tt} {A : Option Addr} {c : Nat} (h : SVal w v (.mk k n s l) (.agg #[.int .i64 v, .int .i64 k, .int .i64 n, .string s, .slice A l.length c])) : Val w (.mk k n s l) (.agg #[.int .i64 k, .int .i64 n, .string s, .slice A l.length c]) := by
  obtain ⟨A', c', he, h, _⟩ := h
  simp only [Tt.kind, Tt.num, Tt.name, Tt.args, Value.agg.injEq, Array.mk.injEq, List.cons.injEq, Value.slice.injEq, and_true, true_and] at he
  obtain ⟨rfl, rfl⟩ := he
  exact ⟨A, c, rfl, h⟩
theorem SVal.v64 {w : World} {v : Int} {t : Tt} {x : Value} (h : SVal w v t x) : -9223372036854775808 ≤ v ∧ v ≤ 9223372036854775807 := h.elim fun _ h => h.elim fun _ h => h.2.2
theorem sright_val {w : World} {v : Int} {t : Tt} {x : Value} (h : SVal w v t x) (hsz : (pre t).length ≤ 1048576) : Calls Tryz.prog 13 #[x] w fun e w' => e = .returned (.bool (rightS v t)) ∧ Below w.heap.size w w' := by
  have H := Lib.hid h
  obtain ⟨hv0, hv1⟩ := h.v64
  obtain ⟨A, c, rfl, _⟩ := h
  obtain ⟨k, n, s, l⟩ := t
  simp only [Tt.kind, Tt.num, Tt.name, Tt.args] at H ⊢
  obtain ⟨w0, hw0⟩ : ∃ w0, w0 = w.alloc (.cells #[.int .i64 v, .int .i64 k, .int .i64 n, .string s, .slice A l.length c] 28) := ⟨_, rfl⟩
  have hb0 : Below w.heap.size w w0 := by rw [hw0]; exact below_new _ _
  have hg0 : w0.heap[w.heap.size]? = some (.cells #[.int .i64 v, .int .i64 k, .int .i64 n, .string s, .slice A l.length c] 28 (0, 0)) := by rw [hw0]; exact heap_alloc_new _ _
  have c0 : w0.cell? ⟨w.heap.size, 0, none⟩ = some (.int .i64 v) := by rw [cell_of_row w0 _ 0 _ _ _ hg0]; rfl
  have HT := Lib.hid (H.out.ty.on hb0)
  have HB := Lib.hid hb0
  have HRG : Hid (w0.rangeAt w.heap.size 1 [.int .i64 k, .int .i64 n, .string s, .slice A l.length c]) := Lib.hid (range_tail hg0)
  have HW0 := Lib.hid hw0
  have HC := Lib.hid (fun W (h : Val W (.mk k n s l) (.agg #[.int .i64 k, .int .i64 n, .string s, .slice A l.length c])) => right_val h hsz (low_all h))
  have HR : Hid (rightS v (.mk k n s l) = (decide (0 ≤ v) && decide (v ≤ 256) && rightT (.mk k n s l))) := Lib.hid rfl
  generalize rightS v (.mk k n s l) = r at *
  generalize rightT (.mk k n s l) = q at *
  clear hb0 hg0 hw0 hsz H
  by_cases h0 : 0 ≤ v
  case neg =>
    have H0 := Lib.hid h0
    go_enter Tryz.func13, Tryz.ntmps13
    go_upto_region 1 with fail
    rw [← HW0.out]
    go_wp2
    go_ret
    exact ⟨ret_bool (by rw [HR.out, decide_eq_false (show ¬ (0 ≤ v) by have := H0.out; omega)]; rfl), HB.out⟩
  by_cases h1 : v ≤ 256
  case neg =>
    have H1 := Lib.hid h1
    go_enter Tryz.func13, Tryz.ntmps13
    go_upto_region 1 with fail
    rw [← HW0.out]
    go_wp2
    go_ret
    exact ⟨ret_bool (by rw [HR.out, decide_eq_true h0, decide_eq_false (show ¬ (v ≤ 256) by have := H1.out; omega)]; rfl), HB.out⟩
  go_enter Tryz.func13, Tryz.ntmps13
  go_upto_region 1 with fail
  rw [← HW0.out]
  go_wp2_with (refine wpList_load_mid_yes (by kernel_rfl) 25 _ rfl w.heap.size 1 rfl _ _ HRG.out Tryz.underlying25 rfl (tySize _ _ _ _) ?_)
  refine (HC.out _ HT.out).mono ?_
  rintro e w1 ⟨rfl, hb⟩
  have HB := Lib.hid (below_then HB.out hb)
  clear hb
  go_wp2
  go_ret
  exact ⟨ret_bool (by rw [HR.out, decide_eq_true h0, decide_eq_true h1]; rfl), HB.out⟩
theorem rsright_val {w : World} {v : Int} {t : Tt} {x : Value} (h : SVal w v t x) (hsz : (pre t).length ≤ 1048576) : Calls Tryz.prog 14 #[x] w fun e w' => e = .returned (.bool (rightS v t)) ∧ Below w.heap.size w w' := by
  have H := Lib.hid h
  obtain ⟨hv0, hv1⟩ := h.v64
  obtain ⟨A, c, rfl, _⟩ := h
  obtain ⟨k, n, s, l⟩ := t
  simp only [Tt.kind, Tt.num, Tt.name, Tt.args] at H ⊢
  obtain ⟨w0, hw0⟩ : ∃ w0, w0 = w.alloc (.cells #[.int .i64 v, .int .i64 k, .int .i64 n, .string s, .slice A l.length c] 28) := ⟨_, rfl⟩
  have hb0 : Below w.heap.size w w0 := by rw [hw0]; exact below_new _ _
  have hg0 : w0.heap[w.heap.size]? = some (.cells #[.int .i64 v, .int .i64 k, .int .i64 n, .string s, .slice A l.length c] 28 (0, 0)) := by rw [hw0]; exact heap_alloc_new _ _
  have c0 : w0.cell? ⟨w.heap.size, 0, none⟩ = some (.int .i64 v) := by rw [cell_of_row w0 _ 0 _ _ _ hg0]; rfl
  have HT := Lib.hid (H.out.ty.on hb0)
  have HB := Lib.hid hb0
  have HRG : Hid (w0.rangeAt w.heap.size 1 [.int .i64 k, .int .i64 n, .string s, .slice A l.length c]) := Lib.hid (range_tail hg0)
  have HW0 := Lib.hid hw0
  have HC := Lib.hid (fun W (h : Val W (.mk k n s l) (.agg #[.int .i64 k, .int .i64 n, .string s, .slice A l.length c])) => rright_val h hsz)
  have HR : Hid (rightS v (.mk k n s l) = (decide (0 ≤ v) && decide (v ≤ 256) && rightT (.mk k n s l))) := Lib.hid rfl
  generalize rightS v (.mk k n s l) = r at *
  generalize rightT (.mk k n s l) = q at *
  clear hb0 hg0 hw0 hsz H
  by_cases h0 : 0 ≤ v
  case neg =>
    have H0 := Lib.hid h0
    go_enter Tryz.func14, Tryz.ntmps14
    go_upto_region 1 with fail
    rw [← HW0.out]
    go_wp2
    go_ret
    exact ⟨ret_bool (by rw [HR.out, decide_eq_false (show ¬ (0 ≤ v) by have := H0.out; omega)]; rfl), HB.out⟩
  by_cases h1 : v ≤ 256
  case neg =>
    have H1 := Lib.hid h1
    go_enter Tryz.func14, Tryz.ntmps14
    go_upto_region 1 with fail
    rw [← HW0.out]
    go_wp2
    go_ret
    exact ⟨ret_bool (by rw [HR.out, decide_eq_true h0, decide_eq_false (show ¬ (v ≤ 256) by have := H1.out; omega)]; rfl), HB.out⟩
  go_enter Tryz.func14, Tryz.ntmps14
  go_upto_region 1 with fail
  rw [← HW0.out]
  go_wp2_with (refine wpList_load_mid_yes (by kernel_rfl) 25 _ rfl w.heap.size 1 rfl _ _ HRG.out Tryz.underlying25 rfl (tySize _ _ _ _) ?_)
  refine (HC.out _ HT.out).mono ?_
  rintro e w1 ⟨rfl, hb⟩
  have HB := Lib.hid (below_then HB.out hb)
  clear hb
  go_wp2
  go_ret
  exact ⟨ret_bool (by rw [HR.out, decide_eq_true h0, decide_eq_true h1]; rfl), HB.out⟩
def SomeB (e : Ending) : Prop := ∃ b, e = .returned (.bool b)
theorem fewTy_val {w : World} {t : Tt} {x : Value} (h : Val w t x) (most : Int) (h0 : 0 ≤ most) (h1 : most ≤ 1000) : Calls Tryz.prog 26 #[x, .int .i64 most] w fun e w' => SomeB e ∧ Below w.heap.size w w' := by
  obtain ⟨A, c, rfl, d, hd⟩ := h
  obtain ⟨k, n, s, l⟩ := t
  simp only [Tt.kind, Tt.num, Tt.name, Tt.args] at hd ⊢
  have hb0 := below_new w (.cells #[.int .i64 k, .int .i64 n, .string s, .slice A l.length c] 25)
  have HF := Lib.hid (few_any d k n s l A c (w.alloc (.cells #[.int .i64 k, .int .i64 n, .string s, .slice A l.length c] 25)) _ (fun _ h => h) (TyRd.more (fun b hb => Nat.lt_of_lt_of_le hb hb0.size) _ _ _ (TyRd.keep (Same.lt hb0) _ _ _ hd)) most 0 (by omega) h1 (by omega) (by omega))
  have HB := Lib.hid hb0
  clear hd hb0
  go_enter Tryz.func26, Tryz.ntmps26
  go_wp2_with fail
  refine HF.out.mono ?_
  rintro e w1 ⟨⟨r, rfl, h2, h3⟩, hb1⟩
  have HB1 := Lib.hid (below_then HB.out hb1)
  clear hb1
  go_wp2
  go_ret
  exact ⟨⟨_, rfl⟩, HB1.out⟩
theorem rows_val {w : World} {A : Option Addr} {l : List Tt} (h : Rows TyR 4 w (Lt w.heap.size) A l) {i : Nat} (hi : i < l.length) : ∃ b o k n s m A' c', l[i] = .mk k n s m ∧ A = some ⟨b, o, none⟩ ∧ b < w.heap.size ∧ w.rangeAt b (o + i * 4) [.int .i64 k, .int .i64 n, .string s, .slice A' m.length c'] ∧ Val w (.mk k n s m) (.agg #[.int .i64 k, .int .i64 n, .string s, .slice A' m.length c']) := by
  obtain ⟨b, o, cs, rfl, hS, hr, hd⟩ := h.at_ hi
  generalize l[i] = x at *
  obtain ⟨k, n, s, m⟩ := x
  obtain ⟨A', c', hcs, _⟩ := TyR.open_ hd
  simp only [Tt.kind, Tt.num, Tt.name, Tt.args] at hcs
  subst hcs
  exact ⟨b, o, k, n, s, m, A', c', rfl, rfl, hS, hr, A', c', rfl, hd⟩
theorem Rows.on {w w' : World} {A : Option Addr} {l : List Tt} (h : Rows TyR 4 w (Lt w.heap.size) A l) (hb : Below w.heap.size w w') : Rows TyR 4 w' (Lt w'.heap.size) A l := (h.keep (Same.lt hb)).more fun b hB => Nat.lt_of_lt_of_le hB hb.size
set_option maxHeartbeats 1000000 in
theorem lfew_any {w : World} {v : Int} {t : Tt} {x : Value} (h : SVal w v t x) {l : List Tt} {A : Option Addr} {c : Nat} (hl : l.length ≤ 1048576) (hR : Rows TyR 4 w (Lt w.heap.size) A l) :
    Calls Tryz.prog 8 #[x, .slice A l.length c] w fun e w' => SomeB e ∧ Below w.heap.size w w' := by
  have H := Lib.hid h
  obtain ⟨A0, c0, rfl, _⟩ := h
  obtain ⟨k, n, s, m⟩ := t
  simp only [Tt.kind, Tt.num, Tt.name, Tt.args] at H ⊢
  obtain ⟨w0, hw0⟩ : ∃ w0, w0 = w.alloc (.cells #[.int .i64 v, .int .i64 k, .int .i64 n, .string s, .slice A0 m.length c0] 28) := ⟨_, rfl⟩
  have hb0 : Below w.heap.size w w0 := by rw [hw0]; exact below_new _ _
  have hg0 : w0.heap[w.heap.size]? = some (.cells #[.int .i64 v, .int .i64 k, .int .i64 n, .string s, .slice A0 m.length c0] 28 (0, 0)) := by rw [hw0]; exact heap_alloc_new _ _
  have HT := Lib.hid (H.out.ty.on hb0)
  have HRW := Lib.hid (hR.on hb0)
  have HB := Lib.hid hb0
  have HG0 := Lib.hid hg0
  have HW0 := Lib.hid hw0
  clear hb0 hg0 hw0 H hR
  go_enter Tryz.func8, Tryz.ntmps8
  go_upto_region 1 with fail
  rw [← HW0.out]
  go_wp2
  go_loopw [8] (fun z wr => ∃ j : Nat, j ≤ l.length ∧ z = .int .i64 j ∧ Below w0.heap.size w0 wr) (fun z _ => l.length - (intOf z).toNat)
  case atStart => exact ⟨0, Nat.zero_le _, rfl, Below.refl _ _⟩
  case round =>
    obtain ⟨j, hj, rfl, hbw⟩ := hrel
    have HBW := Lib.hid hbw
    clear hbw
    by_cases hlt : j < l.length
    · obtain ⟨b, o, k2, n2, s2, m2, A2, c2, hx, rfl, hSb, hr, hv⟩ := rows_val (HRW.out.on HBW.out) hlt
      have HR := Lib.hid hr
      have HF := Lib.hid (fewTy_val hv 300 (by omega) (by omega))
      clear hr hv hx
      go_wp2_with (refine wpList_load_mid rfl 25 _ rfl b (o + j * 4) rfl _ _ HR.out Tryz.underlying25 rfl (tySize _ _ _ _) ?_)
      refine HF.out.mono ?_
      rintro e w1 ⟨⟨q, rfl⟩, hb1⟩
      have HB1 := Lib.hid (below_then HBW.out hb1)
      clear hb1
      cases q
      · go_wp2
        go_ret
        exact ⟨⟨_, rfl⟩, below_then HB.out HB1.out⟩
      · go_wp2
        go_roundw
        case rel => exact ⟨j + 1, by omega, by go_num, HB1.out⟩
        case measure => simp [intOf]; omega
    · obtain rfl : j = l.length := by omega
      by_cases h3 : l.length < 300
      · have h3' : (l.length : Int) < 300 := by omega
        have HRG : Hid (wr.rangeAt w.heap.size 1 [.int .i64 k, .int .i64 n, .string s, .slice A0 m.length c0]) := Lib.hid (range_tail (row_on HG0.out HBW.out))
        have HF := Lib.hid (fewTy_val (HT.out.on HBW.out) 400 (by omega) (by omega))
        go_wp2_with (refine wpList_load_mid_yes (by kernel_rfl) 25 _ rfl w.heap.size 1 rfl _ _ HRG.out Tryz.underlying25 rfl (tySize _ _ _ _) ?_)
        refine HF.out.mono ?_
        rintro e w1 ⟨⟨q, rfl⟩, hb1⟩
        have HB1 := Lib.hid (below_then HBW.out hb1)
        clear hb1
        go_wp2
        go_ret
        exact ⟨⟨_, rfl⟩, below_then HB.out HB1.out⟩
      · have h3' : ¬ ((l.length : Int) < 300) := by omega
        go_wp2
        go_ret
        exact ⟨⟨_, rfl⟩, below_then HB.out HBW.out⟩
theorem has_any (l : List Int) (x : Int) (A : Option Addr) (c : Nat) (hl : l.length ≤ 1048576) (w : World) (B : Nat) (h : IntsAt w B A l) :
    Calls Tryz.prog 35 #[.slice A l.length c, .int .i64 x] w fun e w' => e = .returned (.bool (decide (x ∈ l))) ∧ w = w' := by
  have HA := Lib.hid h
  clear h
  go_enter Tryz.func35, Tryz.ntmps35
  go_wp2
  go_loop [8] (fun z => ∃ k : Nat, k ≤ l.length ∧ z = .int .i64 k ∧ ∀ i (h : i < l.length), i < k → l[i] ≠ x) (fun z => l.length - (intOf z).toNat)
  case atStart => exact ⟨0, Nat.zero_le _, rfl, fun i _ h => absurd h (Nat.not_lt_zero _)⟩
  case round =>
    obtain ⟨k, hk, rfl, hno⟩ := hrel
    have HN := Lib.hid hno
    clear hno
    by_cases hlt : k < l.length
    · obtain ⟨ad, rfl, _, hc⟩ := HA.out.at_ hlt
      by_cases he : l[k] = x
      · have q : (l[k] == x) = true := by simpa using he
        have HE := Lib.hid he
        clear he
        go_wp2
        go_ret
        exact ⟨ret_bool (by rw [← HE.out]; simp), rfl⟩
      · have q : (l[k] == x) = false := by simpa using he
        have HE := Lib.hid he
        clear he
        go_wp2
        go_round
        case rel => exact ⟨k + 1, by omega, by go_num, fun i hi hik => by
          by_cases e : i = k
          · subst e; exact HE.out
          · exact HN.out i hi (by omega)⟩
        case measure => simp [intOf]; omega
    · obtain rfl : k = l.length := by omega
      go_wp2
      go_ret
      refine ⟨ret_bool ?_, rfl⟩
      symm
      rw [decide_eq_false_iff_not]
      intro hm
      obtain ⟨i, hi, he⟩ := List.getElem_of_mem hm
      exact HN.out i hi hi he
end Go.Proofs.YtoopopjcojphaaaGreatDoor
