import Derived.Test.YtoopopjcojphaaaGreatDoorQT
import Derived.Test.YtoopopjcojphaaaGreatDoorQU
/-
  PLAIN MATHEMATICS OF SchemeStands: a scheme without kept variables is more general than what it is with types; its variables turned about.
-/
namespace Go.Proofs.YtoopopjcojphaaaGreatDoor
open Go.ChangeShapes Go.WideShapes Go.ChangeAt Go.RowKit
set_option linter.unusedVariables false
/-- No variable is kept. -/
def openT (v : Int) (t : Tt) : Bool := (varsT t).all fun x => decide (x < v)
theorem open_at {v : Int} {t u : Tt} (h : openT v t = true) (hu : u ∈ pre t) (hk : u.kind = 1) : u.num < v := by
  have := List.all_eq_true.1 h _ (vars_mem hu hk)
  simpa using this
theorem num_at {t u : Tt} (hf : formedT t = true) (hu : u ∈ pre t) (hk : u.kind = 1) : 0 ≤ u.num := (good_var (formed_mem hf hu) hk).1
theorem of_right {t : Tt} {keep : List Int} (h : rightT' t = true) : rightS (ofV t keep) (ofT t keep) = true := by
  obtain ⟨h1, h2⟩ := right_iff.1 h
  have hV : ofV t keep = (((varsT t).filter (outK keep)).length : Nat) := if_pos h
  have hTt : ofT t keep = rebT (placeF (oldS t keep)) t := if_pos h
  have hvl : (varsT t).length ≤ 256 := Nat.le_trans (vars_le _) h1
  have hfl := List.length_filter_le (outK keep) (varsT t)
  rw [rightS_iff, hV, hTt]
  refine ⟨by omega, by omega, ?_, ?_⟩
  · rw [reb_len t h2 fun u hu hk x hx => by
      unfold placeF at hx
      split at hx
      · cases hx; simp [vT, pre, preL]
      · cases hx]
    exact h1
  · refine reb_formed t h2 fun u hu hk x hx => ?_
    unfold placeF at hx
    split at hx
    · cases hx; exact formed_v (by omega)
    · cases hx
theorem stands_of {v : Int} {t : Tt} {ls : List Tt} (ho : openT v t = true) (h0 : instE v t ls = 0) : rightT' (instT v t ls) = true ∧ moreB v t (ofV (instT v t ls) []) (ofT (instT v t ls) []) = true := by
  have hT : instT v t ls = rebT (putF ls) t := if_pos h0
  unfold instE at h0
  split at h0
  · simp at h0
  rename_i hr
  split at h0
  · simp at h0
  rename_i hl
  split at h0
  · simp at h0
  rename_i hs
  have hr1 : rightS v t = true := by cases e : rightS v t <;> simp_all
  have hlv : (ls.length : Int) = v := by by_cases e : (ls.length : Int) = v <;> simp_all
  have hla : ls.all rightT = true := by cases e : ls.all rightT <;> simp_all
  obtain ⟨q1, q2, q3, q4⟩ := rightS_iff.1 hr1
  have hR : rightT' (rebT (putF ls) t) = true := by
    rw [right_iff]
    refine ⟨by omega, reb_formed t q4 fun u hu hk x hx => ?_⟩
    unfold putF at hx
    split at hx
    · cases hx
      exact (right_iff.1 (List.all_eq_true.1 hla _ (List.getElem_mem (by omega)))).2
    · cases hx
  rw [hT]
  refine ⟨hR, ?_⟩
  rw [more_iff]
  refine ⟨hr1, of_right hR, fun n => rebT (placeF (oldS (rebT (putF ls) t) [])) ((putF ls n).getD zT), ?_⟩
  have hTt : ofT (rebT (putF ls) t) [] = rebT (placeF (oldS (rebT (putF ls) t) [])) (rebT (putF ls) t) := if_pos hR
  rw [hTt, reb_comp]
  unfold subT
  refine reb_congr t fun u hu hk => ?_
  have h1 := open_at ho hu hk
  have h2 := num_at q4 hu hk
  unfold subF
  have e := putF_in (ls := ls) (n := u.num) ⟨h2, by omega⟩
  rw [if_pos h1]
  simp [e]
/-- The variables turned about. -/
def turnL (v : Int) : List Tt := (List.range v.toNat).map fun (i : Nat) => vT (v - 1 - i)
theorem turn_at {v n : Int} (h : 0 ≤ n ∧ n < v) : putF (turnL v) n = some (vT (v - 1 - n)) := by
  rw [putF_in (by unfold turnL; simp; omega)]
  congr 1
  unfold turnL
  simp only [List.getElem_map, List.getElem_range]
  congr 1
  omega
theorem turn_len {v : Int} (h : 0 ≤ v) : ((turnL v).length : Int) = v := by unfold turnL; simp; omega
theorem stands_turn {v : Int} {t : Tt} (hr : rightS v t = true) (ho : openT v t = true) : instE v t (turnL v) = 0 ∧ sameS v t v (instT v t (turnL v)) = true := by
  obtain ⟨q1, q2, q3, q4⟩ := rightS_iff.1 hr
  have hl := turn_len q1
  have hu1 : ∀ u ∈ pre t, u.kind = 1 → putF (turnL v) u.num = some (vT (v - 1 - u.num)) := fun u hu hk => turn_at ⟨num_at q4 hu hk, open_at ho hu hk⟩
  have hlen : (pre (rebT (putF (turnL v)) t)).length = (pre t).length := reb_len t q4 fun u hu hk x hx => by
    rw [hu1 u hu hk] at hx; cases hx; simp [vT, pre, preL]
  have hfm : formedT (rebT (putF (turnL v)) t) = true := reb_formed t q4 fun u hu hk x hx => by
    rw [hu1 u hu hk] at hx; cases hx
    exact formed_v (by have := open_at ho hu hk; omega)
  have hall : (turnL v).all rightT = true := List.all_eq_true.2 fun x hx => by
    unfold turnL at hx
    obtain ⟨i, hi, rfl⟩ := List.mem_map.1 hx
    have := List.mem_range.1 hi
    exact right_iff.2 ⟨by simp [vT, pre, preL], formed_v (by omega)⟩
  have hE : instE v t (turnL v) = 0 := by
    unfold instE
    rw [if_neg (by rw [hr, hl]; simp), if_neg (by rw [hall]; simp), if_neg (by omega)]
  have hT : instT v t (turnL v) = rebT (putF (turnL v)) t := if_pos hE
  refine ⟨hE, ?_⟩
  have hrU : rightS v (rebT (putF (turnL v)) t) = true := rightS_iff.2 ⟨q1, q2, by omega, hfm⟩
  rw [hT]
  unfold sameS
  rw [Bool.and_eq_true]
  constructor
  · refine more_iff.2 ⟨hr, hrU, fun n => vT (v - 1 - n), reb_congr t fun u hu hk => ?_⟩
    rw [hu1 u hu hk]
    unfold subF
    rw [if_pos (open_at ho hu hk)]
  · refine more_iff.2 ⟨hrU, hr, fun n => vT (v - 1 - n), ?_⟩
    unfold subT
    rw [reb_comp]
    refine (reb_congr (g := fun n => some (vT n)) t fun u hu hk => ?_).trans (reb_id t q4)
    have h1 := open_at ho hu hk
    have h2 := num_at q4 hu hk
    rw [hu1 u hu hk]
    simp only
    congr 1
    have e : rebT (subF v v fun n => vT (v - 1 - n)) (vT (v - 1 - u.num)) = vT (v - 1 - (v - 1 - u.num)) := reb_var (by unfold subF; rw [if_pos (by omega)])
    rw [e]
    congr 1
    omega
end Go.Proofs.YtoopopjcojphaaaGreatDoor
/-
  THE LAW's kept.
-/
namespace Go.Proofs.YtoopopjcojphaaaGreatDoor
open Go.ChangeShapes Go.WideShapes Go.ChangeAt Go.RowKit
set_option linter.unusedVariables false
theorem rvars10_val {w : World} {a : Tt} {x : Value} (ha : Val w a x) (hsz : (pre a).length ≤ 1048576) : Calls Tryz.prog 34 #[x] w (IntsMade w (varsT a)) := by
  obtain ⟨A, c, rfl, d, ha⟩ := ha
  obtain ⟨k, n, s, l⟩ := a
  exact rvars_any d k n s l A c w _ (fun _ h => h) hsz ha
set_option maxRecDepth 100000 in
set_option maxHeartbeats 8000000 in
theorem kept_any {w : World} {v : Int} {t : Tt} {x : Value} (h : SVal w v t x) (hsz : (pre t).length ≤ 1048576) : Calls Tryz.prog 24 #[x] w fun e w' => e = .returned (.bool (!openT v t)) ∧ Below w.heap.size w w' := by
  have H := Lib.hid h
  obtain ⟨A, c, rfl, _⟩ := h
  obtain ⟨k, n, s, m⟩ := t
  simp only [Tt.kind, Tt.num, Tt.name, Tt.args] at H ⊢
  obtain ⟨w0, hw0⟩ : ∃ w0, w0 = w.alloc (.cells #[.int .i64 v, .int .i64 k, .int .i64 n, .string s, .slice A m.length c] 28) := ⟨_, rfl⟩
  have hb0 : Below w.heap.size w w0 := by rw [hw0]; exact below_new _ _
  have hg0 : w0.heap[w.heap.size]? = some (.cells #[.int .i64 v, .int .i64 k, .int .i64 n, .string s, .slice A m.length c] 28 (0, 0)) := by rw [hw0]; exact heap_alloc_new _ _
  have HW0 := Lib.hid hw0
  have HB0 := Lib.hid hb0
  have HG0 := Lib.hid hg0
  have HRG : Hid (w0.rangeAt w.heap.size 1 [.int .i64 k, .int .i64 n, .string s, .slice A m.length c]) := Lib.hid (range_tail hg0)
  have HV := Lib.hid (rvars10_val (H.out.on hb0).ty hsz)
  obtain ⟨ob, hob⟩ : ∃ ob, ob = openT v (.mk k n s m) := ⟨_, rfl⟩
  rw [← hob]
  have HO : Hid (ob = (varsT (.mk k n s m)).all fun x => decide (x < v)) := Lib.hid hob
  have hvl : (varsT (.mk k n s m)).length ≤ 1048576 := Nat.le_trans (vars_le _) hsz
  clear hob
  clear hw0 hb0 hg0 H
  generalize varsT (.mk k n s m) = vs at *
  go_enter Tryz.func24, Tryz.ntmps24
  go_upto_region 1 with fail
  rw [← HW0.out]
  go_wp2_with (refine wpList_load_mid rfl 25 _ rfl w.heap.size 1 rfl _ _ HRG.out Tryz.underlying25 rfl (tySize _ _ _ _) ?_)
  refine HV.out.mono ?_
  rintro e w1 ⟨A1, c1, rfl, hi, _, _, _, hb1⟩
  have HI := Lib.hid hi
  have HB1 := Lib.hid hb1
  have hg1 := row_on HG0.out hb1
  have HG1 := Lib.hid hg1
  have hlt1 := lt_of_cells hg1
  clear hi hb1 hg1
  go_wp2
  go_loopw [10] (fun z wr => ∃ j : Nat, j ≤ vs.length ∧ z = .int .i64 j ∧ (∀ i (h : i < vs.length), i < j → vs[i] < v) ∧ Below w1.heap.size w1 wr) (fun z _ => vs.length - (intOf z).toNat)
  case atStart => exact ⟨0, Nat.zero_le _, rfl, fun i _ h => absurd h (Nat.not_lt_zero _), Below.refl _ _⟩
  case round =>
    obtain ⟨j, hj, rfl, hall, hbr⟩ := hrel
    have HALL := Lib.hid hall
    have HBR := Lib.hid hbr
    clear hall hbr
    by_cases hlt : j < vs.length
    · obtain ⟨ad, hAd, hadb, hcd⟩ := (HI.out.below HBR.out).at_ hlt
      subst hAd
      have HC : Hid (∀ W', Below wr.heap.size wr W' → W'.cell? (ad.add j) = some (.int .i64 vs[j]) ∧ W'.cell? ⟨w.heap.size, 0, none⟩ = some (.int .i64 v)) := Lib.hid fun W' hW => by
        have hb := HBR.out.trans (hW.mono HBR.out.size)
        exact ⟨((HI.out.below hb).at_ hlt).elim fun a h => by obtain ⟨e, _, h⟩ := h; cases e; exact h, by rw [cell_of_row W' _ 0 _ _ _ ((hb.block _ hlt1).trans HG1.out)]; rfl⟩
      clear hcd
      by_cases hge : vs[j] < v
      · have HLT := Lib.hid hge
        have qg : ¬ (v ≤ vs[j]) := by omega
        generalize hvj : vs[j] = vj at *
        go_wp2
        refine wp_region_K (fun w' => Below wr.heap.size wr w') (fun j => true) (by kernel_rfl) ?_
        refine wpK_take0 (v := ?_) (a' := ?_) 0 rfl (by kernel_rfl) (by kernel_rfl) (by kernel_rfl) (by kernel_rfl) (fun _ _ _ h => h) ?_ ?_ ?_
        rotate_left 2
        · refine .inl ⟨by kernel_rfl, ?_⟩; intro wS hS; clear hS; go_simp; with_reducible rfl
        · go_simp; with_reducible rfl
        refine wpK_take0 (v := ?_) (a' := ?_) 1 rfl (by kernel_rfl) (by kernel_rfl) (by kernel_rfl) (by kernel_rfl) (fun _ _ _ h => h) ?_ ?_ ?_
        rotate_left 2
        · refine .inl ⟨by kernel_rfl, ?_⟩; intro wS hS; clear hS; go_simp; with_reducible rfl
        · go_simp; with_reducible rfl
        refine wpK_take0 (v := ?_) (a' := ?_) 2 rfl (by kernel_rfl) (by kernel_rfl) (by kernel_rfl) (by kernel_rfl) (fun _ _ _ h => h) ?_ ?_ ?_
        rotate_left 2
        · refine .inl ⟨by kernel_rfl, ?_⟩; intro wS hS; clear hS; go_simp; with_reducible rfl
        · go_simp; with_reducible rfl
        refine wpK_take (v := ?_) (a' := ?_) 3 rfl (by kernel_rfl) (by kernel_rfl) (by kernel_rfl) (by kernel_rfl) (by kernel_rfl) (fun _ _ _ h => h) (below_drew1 (Below.refl _ _)) ?_ ?_ ?_
        rotate_left 2
        · refine .inl ⟨by kernel_rfl, ?_⟩; intro wS hS; have q1 := (HC.out _ hS).1; have q2 := (HC.out _ hS).2; go_simp; with_reducible rfl
        · go_simp; with_reducible rfl
        refine wpK_take0 (v := ?_) (a' := ?_) 4 rfl (by kernel_rfl) (by kernel_rfl) (by kernel_rfl) (by kernel_rfl) (fun _ _ _ h => h) ?_ ?_ ?_
        rotate_left 2
        · refine .inl ⟨by kernel_rfl, ?_⟩; intro wS hS; clear hS; go_simp; with_reducible rfl
        · go_simp; with_reducible rfl
        refine wpK_take (v := ?_) (a' := ?_) 5 rfl (by kernel_rfl) (by kernel_rfl) (by kernel_rfl) (by kernel_rfl) (by kernel_rfl) (fun _ _ _ h => h) (below_drew1 (Below.refl _ _)) ?_ ?_ ?_
        rotate_left 2
        · refine .inl ⟨by kernel_rfl, ?_⟩; intro wS hS; have q1 := (HC.out _ hS).1; have q2 := (HC.out _ hS).2; go_simp; with_reducible rfl
        · go_simp; with_reducible rfl
        refine wpK_take0 (v := ?_) (a' := ?_) 6 rfl (by kernel_rfl) (by kernel_rfl) (by kernel_rfl) (by kernel_rfl) (fun _ _ _ h => h) ?_ ?_ ?_
        rotate_left 2
        · refine .inl ⟨by kernel_rfl, ?_⟩; intro wS hS; clear hS; go_simp; with_reducible rfl
        · go_simp; with_reducible rfl
        refine wpK_end (by kernel_rfl) ?_ _
        go_wp2
        go_roundw
        case rel =>
          refine ⟨j + 1, by omega, by go_num, fun i hi hij => ?_, below_drew1 HBR.out⟩
          by_cases e : i = j
          · subst e; rw [hvj]; exact HLT.out
          · exact HALL.out i hi (by omega)
        case measure => simp [intOf]; omega
      · have HF : Hid ((vs.all fun x => decide (x < v)) = false) := Lib.hid (by
          rw [List.all_eq_false]
          exact ⟨vs[j], List.getElem_mem hlt, by simpa using hge⟩)
        have qg : v ≤ vs[j] := by omega
        generalize hvj : vs[j] = vj at *
        go_wp2
        refine wp_region_K (fun w' => Below wr.heap.size wr w') (fun j => true) (by kernel_rfl) ?_
        refine wpK_take0 (v := ?_) (a' := ?_) 0 rfl (by kernel_rfl) (by kernel_rfl) (by kernel_rfl) (by kernel_rfl) (fun _ _ _ h => h) ?_ ?_ ?_
        rotate_left 2
        · refine .inl ⟨by kernel_rfl, ?_⟩; intro wS hS; clear hS; go_simp; with_reducible rfl
        · go_simp; with_reducible rfl
        refine wpK_take0 (v := ?_) (a' := ?_) 1 rfl (by kernel_rfl) (by kernel_rfl) (by kernel_rfl) (by kernel_rfl) (fun _ _ _ h => h) ?_ ?_ ?_
        rotate_left 2
        · refine .inl ⟨by kernel_rfl, ?_⟩; intro wS hS; clear hS; go_simp; with_reducible rfl
        · go_simp; with_reducible rfl
        refine wpK_take0 (v := ?_) (a' := ?_) 2 rfl (by kernel_rfl) (by kernel_rfl) (by kernel_rfl) (by kernel_rfl) (fun _ _ _ h => h) ?_ ?_ ?_
        rotate_left 2
        · refine .inl ⟨by kernel_rfl, ?_⟩; intro wS hS; clear hS; go_simp; with_reducible rfl
        · go_simp; with_reducible rfl
        refine wpK_take (v := ?_) (a' := ?_) 3 rfl (by kernel_rfl) (by kernel_rfl) (by kernel_rfl) (by kernel_rfl) (by kernel_rfl) (fun _ _ _ h => h) (below_drew1 (Below.refl _ _)) ?_ ?_ ?_
        rotate_left 2
        · refine .inl ⟨by kernel_rfl, ?_⟩; intro wS hS; have q1 := (HC.out _ hS).1; have q2 := (HC.out _ hS).2; go_simp; with_reducible rfl
        · go_simp; with_reducible rfl
        refine wpK_take0 (v := ?_) (a' := ?_) 4 rfl (by kernel_rfl) (by kernel_rfl) (by kernel_rfl) (by kernel_rfl) (fun _ _ _ h => h) ?_ ?_ ?_
        rotate_left 2
        · refine .inl ⟨by kernel_rfl, ?_⟩; intro wS hS; clear hS; go_simp; with_reducible rfl
        · go_simp; with_reducible rfl
        refine wpK_take (v := ?_) (a' := ?_) 5 rfl (by kernel_rfl) (by kernel_rfl) (by kernel_rfl) (by kernel_rfl) (by kernel_rfl) (fun _ _ _ h => h) (below_drew1 (Below.refl _ _)) ?_ ?_ ?_
        rotate_left 2
        · refine .inl ⟨by kernel_rfl, ?_⟩; intro wS hS; have q1 := (HC.out _ hS).1; have q2 := (HC.out _ hS).2; go_simp; with_reducible rfl
        · go_simp; with_reducible rfl
        refine wpK_take0 (v := ?_) (a' := ?_) 6 rfl (by kernel_rfl) (by kernel_rfl) (by kernel_rfl) (by kernel_rfl) (fun _ _ _ h => h) ?_ ?_ ?_
        rotate_left 2
        · refine .inl ⟨by kernel_rfl, ?_⟩; intro wS hS; clear hS; go_simp; with_reducible rfl
        · go_simp; with_reducible rfl
        refine wpK_end (by kernel_rfl) ?_ _
        go_wp2
        go_ret
        exact ⟨ret_bool (by rw [HO.out, HF.out]; rfl), below_then HB0.out (below_then HB1.out (below_drew1 HBR.out))⟩
    · obtain rfl : j = vs.length := by omega
      have HF : Hid ((vs.all fun x => decide (x < v)) = true) := Lib.hid (by
        rw [List.all_eq_true]
        intro y hy
        obtain ⟨i, hi, rfl⟩ := List.getElem_of_mem hy
        simpa using HALL.out i hi hi)
      go_wp2
      go_ret
      exact ⟨ret_bool (by rw [HO.out, HF.out]; rfl), below_then HB0.out (below_then HB1.out HBR.out)⟩
end Go.Proofs.YtoopopjcojphaaaGreatDoor
/-
  SchemeStands: THE WALK.
-/
namespace Go.Proofs.YtoopopjcojphaaaGreatDoor
open Go.ChangeShapes Go.WideShapes Go.ChangeAt Go.RowKit
set_option linter.unusedVariables false
theorem lawv_exact {w : World} {n : Int} : Calls Tryz.prog 25 #[.int .i64 n] w fun e w' => e = .returned (.agg #[.int .i64 1, .int .i64 n, .string ⟨#[]⟩, .slice none 0 0]) ∧ Below w.heap.size w w' := by
  go_enter Tryz.func25, Tryz.ntmps25
  go_wp2
  refine bodyPost_ret (v := .agg #[.int .i64 1, .int .i64 n, .string ⟨#[]⟩, .slice none 0 0]) (results_cell_row rfl _ _ w.heap.size 25 _ (0, 0) _ rfl (heap_alloc_new _ _) Tryz.underlying25 rfl (tySizeA _ _ _ _)) rfl ?_
  exact ⟨rfl, below_new _ _⟩
def turnR (v : Int) (j : Nat) : List (List Value) := (List.range j).map fun (i : Nat) => [.int .i64 1, .int .i64 (v - 1 - i), .string ⟨#[]⟩, .slice none 0 0]
theorem turnR_next (v : Int) (j : Nat) : (turnR v (j + 1)).flatten = (turnR v j).flatten ++ [.int .i64 1, .int .i64 (v - 1 - j), .string ⟨#[]⟩, .slice none 0 0] := by
  unfold turnR; rw [List.range_succ]; simp
/-- The types made so far stand in a row of the call's own. -/
def TurnAt (B : Nat) (v : Int) (j : Nat) (sv : Value) (w : World) : Prop := B ≤ w.heap.size ∧ w.ownsRow B 25 4 sv j (turnR v j).flatten
theorem TurnAt.rows {B : Nat} {v : Int} {j : Nat} {A : Option Addr} {m c : Nat} {w : World} (h : TurnAt B v j (.slice A m c) w) (hv : 0 ≤ v ∧ v ≤ 256) (hj : j = v.toNat) : m = (turnL v).length ∧ Rows TyR 4 w (Lt w.heap.size) A (turnL v) := by
  obtain ⟨_, h0, h1⟩ := h
  have hlen : (turnL v).length = j := by unfold turnL; simp [hj]
  rcases h1 with ⟨e, h2⟩ | ⟨g, cap, cur, e, hb, hg, hc1, hc2, hs, ht⟩
  · simp only [Value.slice.injEq] at e
    obtain ⟨rfl, rfl, rfl⟩ := e
    have h3 : (turnL v).length = 0 := by omega
    refine ⟨h3.symm, fun i t ht => ?_⟩
    have := (List.getElem?_eq_some_iff.1 ht).1
    omega
  · simp only [Value.slice.injEq] at e
    obtain ⟨rfl, rfl, rfl⟩ := e
    refine ⟨hlen.symm, (Rows.block (R := TyR) (sz := 4) (S := Lt w.heap.size) (l := turnL v) (rows := turnR v m) hg ?_ ?_ ?_ ?_).more fun x hx => hx.elim id fun e => by subst e; exact (Array.getElem?_eq_some_iff.1 hg).1⟩
    · intro q u hq
      have hql : q < m * 4 := by rw [← h0]; exact (List.getElem?_eq_some_iff.1 hq).1
      rw [← Array.getElem?_toList, show cur.toList[q]? = (cur.toList.take (m * 4))[q]? by rw [List.getElem?_take_of_lt hql], ht]
      exact hq
    · intro r hr
      unfold turnR at hr
      obtain ⟨i, _, rfl⟩ := List.mem_map.1 hr
      rfl
    · unfold turnR; simp; omega
    · intro i a r ha hr
      unfold turnL at ha
      unfold turnR at hr
      rw [List.getElem?_map] at ha hr
      obtain ⟨i1, h1, rfl⟩ := Option.map_eq_some_iff.1 ha
      obtain ⟨i2, h2, rfl⟩ := Option.map_eq_some_iff.1 hr
      obtain ⟨q1, rfl⟩ := List.getElem?_eq_some_iff.1 h1
      obtain ⟨q2, rfl⟩ := List.getElem?_eq_some_iff.1 h2
      simp only [List.getElem_range]
      simp only [List.length_range] at q1 q2
      exact TyR.mk (k := 1) (n := v - 1 - i) (s := ⟨#[]⟩) (l := []) (A := none) (c := 0) (by omega) (by simp) (by decide) Rows.nil
theorem sval_of {w : World} {k n v : Int} {s : ByteArray} {l : List Tt} {A : Option Addr} {c : Nat} (h : Val w (.mk k n s l) (.agg #[.int .i64 k, .int .i64 n, .string s, .slice A l.length c])) (hv : -9223372036854775808 ≤ v ∧ v ≤ 9223372036854775807) : SVal w v (.mk k n s l) (.agg #[.int .i64 v, .int .i64 k, .int .i64 n, .string s, .slice A l.length c]) := by
  obtain ⟨A', c', he, h⟩ := h
  simp only [Tt.kind, Tt.num, Tt.name, Tt.args, Value.agg.injEq, Array.mk.injEq, List.cons.injEq, Value.slice.injEq, and_true, true_and] at he
  obtain ⟨rfl, rfl⟩ := he
  exact ⟨A, c, rfl, h, hv⟩
theorem own_count {w : World} {base n m c : Nat} {e : TypeId} {A : Option Addr} {xs : List Value} (h : w.ownsRow base e 4 (.slice A m c) n xs) : m = n := by
  rcases h.2 with ⟨e, h0⟩ | ⟨g, cap, cur, e, _⟩
  · simp only [Value.slice.injEq] at e; omega
  · simp only [Value.slice.injEq] at e; omega
theorem turn_small {v : Int} {u : Tt} (hu : u ∈ turnL v) : (pre u).length ≤ 1048576 := by
  unfold turnL at hu
  obtain ⟨i, _, rfl⟩ := List.mem_map.1 hu
  simp [vT, pre, preL]
set_option maxRecDepth 100000 in
set_option maxHeartbeats 16000000 in
theorem stands_run {w : World} {v : Int} {t : Tt} {x : Value} (h : SVal w v t x) (hsz : (pre t).length ≤ 1048576) {ls : List Tt} {Al : Option Addr} {cl : Nat} (hls0 : ls.length ≤ 1048576) (hsm : ∀ u ∈ ls, (pre u).length ≤ 1048576) (hR : Rows TyR 4 w (Lt w.heap.size) Al ls) (hT : Lx.Tabs w) (hT2 : Nu.Pow10 w) :
    Calls Tryz.prog 6 #[x, .slice Al ls.length cl] w fun e w' => e = .returned (.bool true) ∧ Below w.heap.size w w' := by
  have H := Lib.hid h
  obtain ⟨A, c, rfl, _⟩ := h
  obtain ⟨k, n, s, m⟩ := t
  simp only [Tt.kind, Tt.num, Tt.name, Tt.args] at H ⊢
  obtain ⟨w0, hw0⟩ : ∃ w0, w0 = w.alloc (.cells #[.int .i64 v, .int .i64 k, .int .i64 n, .string s, .slice A m.length c] 28) := ⟨_, rfl⟩
  have hb0 : Below w.heap.size w w0 := by rw [hw0]; exact below_new _ _
  have hg0 : w0.heap[w.heap.size]? = some (.cells #[.int .i64 v, .int .i64 k, .int .i64 n, .string s, .slice A m.length c] 28 (0, 0)) := by rw [hw0]; exact heap_alloc_new _ _
  have HW0 := Lib.hid hw0
  have HB0 := Lib.hid hb0
  have H0 := Lib.hid (H.out.on hb0)
  have RS : Hid (∀ W', Below w0.heap.size w0 W' → W'.heap[w.heap.size]? = some (.cells (List.toArray [.int .i64 v, .int .i64 k, .int .i64 n, .string s, .slice A m.length c]) 28 (0, 0))) := Lib.hid fun W' h => row_on hg0 h
  have HF := Lib.hid (lfew_any (c := cl) (H.out.on hb0) hls0 (hR.on hb0))
  have HRT : Hid (∀ W, Below w0.heap.size w0 W → Calls Tryz.prog 13 #[.agg #[.int .i64 v, .int .i64 k, .int .i64 n, .string s, .slice A m.length c]] W fun e w' => e = .returned (.bool (rightS v (.mk k n s m))) ∧ Below W.heap.size W w') := Lib.hid fun W hW => sright_val (H0.out.on hW) hsz
  have HKP : Hid (∀ W, Below w0.heap.size w0 W → Calls Tryz.prog 24 #[.agg #[.int .i64 v, .int .i64 k, .int .i64 n, .string s, .slice A m.length c]] W fun e w' => e = .returned (.bool (!openT v (.mk k n s m))) ∧ Below W.heap.size W w') := Lib.hid fun W hW => kept_any (H0.out.on hW) hsz
  have HIN : Hid (∀ W (us : List Tt) (Au : Option Addr) (cu : Nat), Below w0.heap.size w0 W → us.length ≤ 1048576 → (∀ u ∈ us, (pre u).length ≤ 1048576) → Rows TyR 4 W (Lt W.heap.size) Au us → Calls Tryz.prog 17 #[.agg #[.int .i64 v, .int .i64 k, .int .i64 n, .string s, .slice A m.length c], .slice Au us.length cu] W (InstPost W (instT v (.mk k n s m) us) (instE v (.mk k n s m) us))) := Lib.hid fun W us Au cu hW h1 h2 h3 => sinst_any (H0.out.on hW) hsz h1 h2 h3 inst_tot
  have HKN : Hid (∀ W, Below w0.heap.size w0 W → Calls Tryz.prog 9 #[] W fun e w' => e = .returned (.bool true) ∧ Below W.heap.size W w') := Lib.hid fun W hW => knows_any W ((hT.on hb0).on hW) ((hT2.on hb0).on hW)
  have HR0 := Lib.hid (hR.on hb0)
  have HLS := Lib.hid (And.intro hls0 hsm)
  clear hw0 hb0 hg0 H hR hT hT2 hsm
  go_enter Tryz.func6, Tryz.ntmps6
  go_upto_region 1 with fail
  rw [← HW0.out]
  go_wp2_with (refine wpList_load_row rfl 28 _ rfl w.heap.size rfl 28 _ (0, 0) _ (RS.out _ (Below.refl _ _)) Tryz.underlying28 rfl (scSize _ _ _ _ _) ?_)
  refine HF.out.mono ?_
  rintro e w1 ⟨⟨b1, rfl⟩, hb1⟩
  have HB1 := Lib.hid hb1
  clear hb1
  cases b1
  case false =>
    go_wp2_with fail
    refine (HKN.out w1 HB1.out).mono ?_
    rintro e w9 ⟨rfl, hb9⟩
    have HB9 := Lib.hid (below_then HB0.out (below_then HB1.out hb9))
    clear hb9
    go_wp2
    go_ret
    exact ⟨rfl, HB9.out⟩
  go_wp2_with (refine wpList_load_row_yes (by kernel_rfl) 28 _ rfl w.heap.size rfl 28 _ (0, 0) _ (RS.out _ HB1.out) Tryz.underlying28 rfl (scSize _ _ _ _ _) ?_)
  refine (HRT.out w1 HB1.out).mono ?_
  rintro e w2 ⟨rfl, hb2⟩
  have HB2 := Lib.hid (below_then HB1.out hb2)
  clear hb2
  cases hr : rightS v (.mk k n s m)
  case false =>
    go_wp2_with fail
    refine (HKN.out w2 HB2.out).mono ?_
    rintro e w9 ⟨rfl, hb9⟩
    have HB9 := Lib.hid (below_then HB0.out (below_then HB2.out hb9))
    clear hb9
    go_wp2
    go_ret
    exact ⟨rfl, HB9.out⟩
  go_wp2_with (refine wpList_load_row_yes (by kernel_rfl) 28 _ rfl w.heap.size rfl 28 _ (0, 0) _ (RS.out _ HB2.out) Tryz.underlying28 rfl (scSize _ _ _ _ _) ?_)
  refine (HKP.out w2 HB2.out).mono ?_
  rintro e w3 ⟨rfl, hb3⟩
  have HB3 := Lib.hid (below_then HB2.out hb3)
  clear hb3
  cases ho : openT v (.mk k n s m)
  case false =>
    simp only [Bool.not_false]
    go_wp2_with fail
    refine (HKN.out w3 HB3.out).mono ?_
    rintro e w9 ⟨rfl, hb9⟩
    have HB9 := Lib.hid (below_then HB0.out (below_then HB3.out hb9))
    clear hb9
    go_wp2
    go_ret
    exact ⟨rfl, HB9.out⟩
  simp only [Bool.not_true]
  obtain ⟨hE2, hS2⟩ := stands_turn hr ho
  obtain ⟨q1, q2, _, _⟩ := rightS_iff.1 hr
  have HST : Hid (instE v (.mk k n s m) ls = 0 → rightT' (instT v (.mk k n s m) ls) = true ∧ moreB v (.mk k n s m) (ofV (instT v (.mk k n s m) ls) []) (ofT (instT v (.mk k n s m) ls) []) = true) := Lib.hid fun h0 => stands_of ho h0
  have HE2 := Lib.hid hE2
  have HS2 := Lib.hid hS2
  have HTL := Lib.hid (turn_len q1)
  clear hr ho hE2 hS2
  have HI1 := Lib.hid (HIN.out w3 ls Al cl HB3.out HLS.out.1 HLS.out.2 (HR0.out.on HB3.out))
  obtain ⟨T1, hT1⟩ : ∃ T1, T1 = instT v (.mk k n s m) ls := ⟨_, rfl⟩
  obtain ⟨e1, he1⟩ : ∃ e1, e1 = instE v (.mk k n s m) ls := ⟨_, rfl⟩
  rw [← hT1, ← he1] at HI1 HST
  clear hT1 he1
  go_wp2_with (refine wpList_load_row rfl 28 _ rfl w.heap.size rfl 28 _ (0, 0) _ (RS.out _ HB3.out) Tryz.underlying28 rfl (scSize _ _ _ _ _) ?_)
  refine HI1.out.mono ?_
  rintro e w4 ⟨y, rfl, hy, hb4⟩
  have HY := Lib.hid hy
  obtain ⟨A4, c4, rfl, _⟩ := hy
  obtain ⟨ku, nu, su, lu⟩ := T1
  simp only [Tt.kind, Tt.num, Tt.name, Tt.args] at HY HST ⊢
  have HB4 := Lib.hid (below_then HB3.out hb4)
  clear hb4 HI1
  go_wp2_with (refine wpList_store_row rfl 25 _ _ rfl w4.heap.size _ rfl rfl 25 #[.int .i64 0, .int .i64 0, .string ⟨#[]⟩, .slice none 0 0] (heap_alloc_new _ _) (tySizeA _ _ _ _) rfl (one4 _ _ _ _ _ _) ?_)
  obtain ⟨wk, hwk⟩ : ∃ wk, wk = (w4.alloc (.cells #[.int .i64 0, .int .i64 0, .string ⟨#[]⟩, .slice none 0 0] 25)).setRow w4.heap.size #[.int .i64 ku, .int .i64 nu, .string su, .slice A4 lu.length c4] := ⟨_, rfl⟩
  have hbr : Below w4.heap.size w4 wk := by rw [hwk]; exact below_setRow (below_new _ _) (Nat.le_refl _)
  have hrr : wk.heap[w4.heap.size]? = some (.cells #[.int .i64 ku, .int .i64 nu, .string su, .slice A4 lu.length c4] 25 (0, 0)) := by rw [hwk]; exact setRow_row (heap_alloc_new _ _)
  rw [← hwk]
  have HBR := Lib.hid (below_then HB4.out hbr)
  have HYR := Lib.hid (HY.out.on hbr)
  have RU : Hid (∀ W', Below wk.heap.size wk W' → W'.heap[w4.heap.size]? = some (.cells (List.toArray [.int .i64 ku, .int .i64 nu, .string su, .slice A4 lu.length c4]) 25 (0, 0))) := Lib.hid fun W' h => row_on hrr h
  have RSR : Hid (∀ W', Below wk.heap.size wk W' → W'.heap[w.heap.size]? = some (.cells (List.toArray [.int .i64 v, .int .i64 k, .int .i64 n, .string s, .slice A m.length c]) 28 (0, 0))) := Lib.hid fun W' h => RS.out _ (below_then HBR.out h)
  clear hwk hbr hrr HY
  go_cut [39] from 31 to 40 (fun s39 wx => s39 = .bool false ∧ Below wk.heap.size wk wx)
  case first =>
    by_cases h1 : e1 = 0
    · subst h1
      obtain ⟨hrt, hmo⟩ := HST.out rfl
      have hlu := (right_iff.1 hrt).1
      have HOF : Hid (∀ W', Below wk.heap.size wk W' → Calls Tryz.prog 10 #[.agg #[.int .i64 ku, .int .i64 nu, .string su, .slice A4 lu.length c4], .slice none 0 0] W' (SGave W' (ofV (.mk ku nu su lu) []) (ofT (.mk ku nu su lu) []))) := Lib.hid fun W' hW => sof_any (HYR.out.on hW) (by omega) (keep := []) (Ak := none) (ck := 0) (by simp) IntsAt.nil
      have HLT : (pre (ofT (.mk ku nu su lu) [])).length ≤ 1048576 := ofT_len (by omega)
      have HMO : Hid (∀ W' z, Below wk.heap.size wk W' → SVal W' (ofV (.mk ku nu su lu) []) (ofT (.mk ku nu su lu) []) z → Calls Tryz.prog 20 #[.agg #[.int .i64 v, .int .i64 k, .int .i64 n, .string s, .slice A m.length c], z] W' fun e w' => e = .returned (.bool true) ∧ Below W'.heap.size W' w') := Lib.hid fun W' z hW hz => by
        have := smore_any (H0.out.on (below_then HBR.out hW)) hz hsz HLT
        rwa [hmo] at this
      obtain ⟨To, hTo⟩ : ∃ To, To = ofT (.mk ku nu su lu) [] := ⟨_, rfl⟩
      obtain ⟨Vo, hVo⟩ : ∃ Vo, Vo = ofV (.mk ku nu su lu) [] := ⟨_, rfl⟩
      rw [← hTo, ← hVo] at HOF HMO
      clear hTo hVo HLT hmo hrt HST
      go_wp2
      refine wp_region_K (fun w' => Below wk.heap.size wk w') (fun j => true) (by kernel_rfl) ?_
      have HS := Lib.hid (below_drew1 (Below.refl wk.heap.size wk))
      refine wpK_take0 (v := ?_) (a' := ?_) 0 rfl (by kernel_rfl) (by kernel_rfl) (by kernel_rfl) (by kernel_rfl) (fun _ _ _ h => h) ?_ ?_ ?_
      rotate_left 2
      · refine .inl ⟨by kernel_rfl, ?_⟩; intro wS hS; clear hS; go_simp; with_reducible rfl
      · go_simp; with_reducible rfl
      refine wpK_take0 (v := ?_) (a' := ?_) 1 rfl (by kernel_rfl) (by kernel_rfl) (by kernel_rfl) (by kernel_rfl) (fun _ _ _ h => h) ?_ ?_ ?_
      rotate_left 2
      · refine .inl ⟨by kernel_rfl, ?_⟩; intro wS hS; clear hS; go_simp; with_reducible rfl
      · go_simp; with_reducible rfl
      refine wpK_take0 (v := ?_) (a' := ?_) 2 rfl (by kernel_rfl) (by kernel_rfl) (by kernel_rfl) (by kernel_rfl) (fun _ _ _ h => h) ?_ ?_ ?_
      rotate_left 2
      · refine .inl ⟨by kernel_rfl, ?_⟩; intro wS hS; clear hS; go_simp; with_reducible rfl
      · go_simp; with_reducible rfl
      refine wpK_take (v := .agg #[.int .i64 v, .int .i64 k, .int .i64 n, .string s, .slice A m.length c]) (a' := ?_) 3 rfl (by kernel_rfl) (by kernel_rfl) (by kernel_rfl) (by kernel_rfl) (by kernel_rfl) (fun _ _ _ h => h) HS.out ?_ ?_ ?_
      rotate_left 1
      · exact yieldsIf_load_mid (by kernel_rfl) 28 (.tmp 2) rfl (w.heap.size) 0 (by go_simp) _ _ (fun wS hS => range_row (RSR.out _ hS)) Tryz.underlying28 rfl (scSize _ _ _ _ _)
      · go_simp; with_reducible rfl
      refine wpK_take (v := .agg #[.int .i64 ku, .int .i64 nu, .string su, .slice A4 lu.length c4]) (a' := ?_) 4 rfl (by kernel_rfl) (by kernel_rfl) (by kernel_rfl) (by kernel_rfl) (by kernel_rfl) (fun _ _ _ h => h) HS.out ?_ ?_ ?_
      rotate_left 1
      · exact yieldsIf_load_mid (by kernel_rfl) 25 (.tmp 5) rfl (w4.heap.size) 0 (by go_simp) _ _ (fun wS hS => range_row (RU.out _ hS)) Tryz.underlying25 rfl (tySize _ _ _ _)
      · go_simp; with_reducible rfl
      refine wpK_one 5 rfl (by kernel_rfl) (fun K hK => ?_)
      have HKK := Lib.hid hK
      clear hK
      go_wp2_with fail
      refine (HOF.out _ HS.out).mono ?_
      rintro e w' ⟨z, rfl, hz, hb⟩
      have HS := Lib.hid (HS.out.trans (hb.mono HS.out.size))
      have HZ2 := Lib.hid hz
      clear hb hz
      go_wp2
      refine HKK.out _ _ (fun _ _ => HS.out) ?_
      refine wpK_one 6 rfl (by kernel_rfl) (fun K hK => ?_)
      have HKK := Lib.hid hK
      clear hK
      go_wp2_with fail
      refine (HMO.out _ _ HS.out HZ2.out).mono ?_
      rintro e w' ⟨rfl, hb⟩
      have HS := Lib.hid (HS.out.trans (hb.mono HS.out.size))
      clear hb
      go_wp2
      refine HKK.out _ _ (fun _ _ => HS.out) ?_
      refine wpK_take0 (v := ?_) (a' := ?_) 7 rfl (by kernel_rfl) (by kernel_rfl) (by kernel_rfl) (by kernel_rfl) (fun _ _ _ h => h) ?_ ?_ ?_
      rotate_left 2
      · refine .inl ⟨by kernel_rfl, ?_⟩; intro wS hS; clear hS; go_simp; with_reducible rfl
      · go_simp; with_reducible rfl
      refine wpK_take0 (v := ?_) (a' := ?_) 8 rfl (by kernel_rfl) (by kernel_rfl) (by kernel_rfl) (by kernel_rfl) (fun _ _ _ h => h) ?_ ?_ ?_
      rotate_left 2
      · refine .inl ⟨by kernel_rfl, ?_⟩; intro wS hS; clear hS; go_simp; with_reducible rfl
      · go_simp; with_reducible rfl
      refine wpK_end (by kernel_rfl) ?_ _
      go_wp2
      go_meet
      exact ⟨rfl, HS.out⟩
    · have qe : (e1 == 0) = false := by simpa using h1
      go_wp2
      refine wp_region_K (fun w' => Below wk.heap.size wk w') (fun j => true) (by kernel_rfl) ?_
      refine wpK_take0 (v := ?_) (a' := ?_) 0 rfl (by kernel_rfl) (by kernel_rfl) (by kernel_rfl) (by kernel_rfl) (fun _ _ _ h => h) ?_ ?_ ?_
      rotate_left 2
      · refine .inl ⟨by kernel_rfl, ?_⟩; intro wS hS; clear hS; go_simp; with_reducible rfl
      · go_simp; with_reducible rfl
      refine wpK_take0 (v := ?_) (a' := ?_) 1 rfl (by kernel_rfl) (by kernel_rfl) (by kernel_rfl) (by kernel_rfl) (fun _ _ _ h => h) ?_ ?_ ?_
      rotate_left 2
      · refine .inl ⟨by kernel_rfl, ?_⟩; intro wS hS; clear hS; go_simp; with_reducible rfl
      · go_simp; with_reducible rfl
      refine wpK_take0 (v := ?_) (a' := ?_) 2 rfl (by kernel_rfl) (by kernel_rfl) (by kernel_rfl) (by kernel_rfl) (fun _ _ _ h => h) ?_ ?_ ?_
      rotate_left 2
      · refine .inl ⟨by kernel_rfl, ?_⟩; intro wS hS; clear hS; go_simp; with_reducible rfl
      · go_simp; with_reducible rfl
      refine wpK_take0 (v := undef) (a' := ?_) 3 rfl (by kernel_rfl) (by kernel_rfl) (by kernel_rfl) (by kernel_rfl) (fun _ _ _ h => h) ?_ ?_ ?_
      rotate_left 1
      · exact .inr ⟨by kernel_rfl, rfl⟩
      · go_simp; with_reducible rfl
      refine wpK_take0 (v := undef) (a' := ?_) 4 rfl (by kernel_rfl) (by kernel_rfl) (by kernel_rfl) (by kernel_rfl) (fun _ _ _ h => h) ?_ ?_ ?_
      rotate_left 1
      · exact .inr ⟨by kernel_rfl, rfl⟩
      · go_simp; with_reducible rfl
      refine wpK_take0 (v := undef) (a' := ?_) 5 rfl (by kernel_rfl) (by kernel_rfl) (by kernel_rfl) (by kernel_rfl) (fun _ _ _ h => h) ?_ ?_ ?_
      rotate_left 1
      · exact .inr ⟨by kernel_rfl, rfl⟩
      · go_simp; with_reducible rfl
      refine wpK_take0 (v := undef) (a' := ?_) 6 rfl (by kernel_rfl) (by kernel_rfl) (by kernel_rfl) (by kernel_rfl) (fun _ _ _ h => h) ?_ ?_ ?_
      rotate_left 1
      · exact .inr ⟨by kernel_rfl, rfl⟩
      · go_simp; with_reducible rfl
      refine wpK_take0 (v := undef) (a' := ?_) 7 rfl (by kernel_rfl) (by kernel_rfl) (by kernel_rfl) (by kernel_rfl) (fun _ _ _ h => h) ?_ ?_ ?_
      rotate_left 1
      · exact .inr ⟨by kernel_rfl, rfl⟩
      · go_simp; with_reducible rfl
      refine wpK_take0 (v := ?_) (a' := ?_) 8 rfl (by kernel_rfl) (by kernel_rfl) (by kernel_rfl) (by kernel_rfl) (fun _ _ _ h => h) ?_ ?_ ?_
      rotate_left 2
      · refine .inl ⟨by kernel_rfl, ?_⟩; intro wS hS; clear hS; go_simp; with_reducible rfl
      · go_simp; with_reducible rfl
      refine wpK_end (by kernel_rfl) ?_ _
      go_wp2
      go_meet
      exact ⟨rfl, below_drew1 (Below.refl _ _)⟩
  case rest =>
    obtain ⟨rfl, hbc⟩ := hcut
    have HBC := Lib.hid (below_then HBR.out hbc)
    have HYC := Lib.hid (HYR.out.on hbc)
    clear hbc HST
    have c0 : wc.cell? ⟨w.heap.size, 0, none⟩ = some (.int .i64 v) := by rw [cell_of_row wc _ 0 _ _ _ (RS.out _ HBC.out)]; rfl
    have hltc := lt_of_cells (RS.out _ HBC.out)
    go_wp2
    go_loopw [7, 42] (fun s7 z wx => ∃ j : Nat, j ≤ v.toNat ∧ z = .int .i64 j ∧ TurnAt wc.heap.size v j s7 wx ∧ Below wc.heap.size wc wx) (fun _ z _ => v.toNat - (intOf z).toNat)
    case atStart => exact ⟨0, Nat.zero_le _, rfl, ⟨Nat.le_refl _, World.ownsRow_nil _ _ _ _⟩, Below.refl _ _⟩
    case round =>
      obtain ⟨j, hj, rfl, hta, hbx⟩ := hrel
      obtain ⟨A7, m7, c7, rfl⟩ := own_slice hta.2
      have HTA := Lib.hid hta
      have HBX := Lib.hid hbx
      have hzx := hbx.size
      have c1 : wr.cell? ⟨w.heap.size, 0, none⟩ = some (.int .i64 v) := by rw [cell_of_row wr _ 0 _ _ _ (RS.out _ (below_then HBC.out hbx))]; rfl
      clear hta hbx
      by_cases hlt : j < v.toNat
      · have hjv : (j : Int) < v := by omega
        have hm7 : m7 = j := own_count HTA.out.2
        subst hm7
        go_wp2_with fail
        refine (lawv_exact (w := wr) (n := v - 1 - m7)).mono ?_
        rintro e w6 ⟨rfl, hb6⟩
        have HB6 := Lib.hid hb6
        have hz6 := hb6.size
        clear hb6
        obtain ⟨i0, hi, hi0, hi1, hi2⟩ := info_parts tyInfo
        have HI := Lib.hid (And.intro hi (And.intro hi0 (And.intro hi1 hi2)))
        clear hi hi0 hi1 hi2
        have HO := Lib.hid ((own_on HTA.out.2 HB6.out).alloc (.cells #[.int .i64 1, .int .i64 (v - 1 - m7), .string ⟨#[]⟩, .slice none 0 0] 25))
        go_wp2_with (at_builtin; refine wpList_append_own_at _ rfl (.tmp 45) (.tmp 52) 23 rfl wc.heap.size 25 i0 (.agg #[.int .i64 0, .int .i64 0, .string ⟨#[]⟩, .slice none 0 0]) 4 56 Tryz.underlying23 HI.out.1 HI.out.2.1 HI.out.2.2.1 HI.out.2.2.2 rfl (by decide) (.slice A7 m7 c7) m7 (turnR v m7).flatten rfl HO.out ⟨w6.heap.size, 0, none⟩ 1 1 [.int .i64 1, .int .i64 (v - 1 - m7), .string ⟨#[]⟩, .slice none 0 0] rfl rfl ?c1 ?c2 ?c3 ?c4 ?c5 ?_)
        case c1 => exact new_cells _ _ _
        case c2 => simp [Value.oneCell']
        case c3 => unfold maxLen; omega
        case c4 => omega
        case c5 => simp; omega
        intro v' w7 hown7 hg7 _ hvb
        obtain ⟨A8, n8, c8, rfl⟩ := own_slice hown7
        rw [← turnR_next] at hown7
        have HN : Hid (TurnAt wc.heap.size v (m7 + 1) (.slice A8 n8 c8) w7 ∧ Below wc.heap.size wc w7) := Lib.hid (by
          have hb1 : Below wc.heap.size wc (w6.alloc (.cells #[.int .i64 1, .int .i64 (v - 1 - m7), .string ⟨#[]⟩, .slice none 0 0] 25)) := (HBX.out.trans (HB6.out.mono hzx)).alloc (by omega) _
          have hb7 := hb1.grown hg7 hb1.size (fun q hq => (HO.out.lt q hq).1)
          exact ⟨⟨hb7.size, hown7⟩, hb7⟩)
        clear hown7 hg7 hvb
        go_wp2
        go_roundw
        case rel => exact ⟨m7 + 1, by omega, by go_num, HN.out.1, HN.out.2⟩
        case measure => simp [intOf]; omega
      · obtain rfl : j = v.toNat := by omega
        obtain ⟨hm7, hrw⟩ := HTA.out.rows ⟨q1, q2⟩ rfl
        subst hm7
        have HBW := Lib.hid (below_then HBC.out HBX.out)
        have hin := HIN.out wr (turnL v) A7 c7 HBW.out (by have := HTL.out; omega) (fun u hu => turn_small hu) hrw
        rw [HE2.out] at hin
        have HI2 := Lib.hid hin
        clear hin hrw HTA
        obtain ⟨T2, hT2⟩ : ∃ T2, T2 = instT v (.mk k n s m) (turnL v) := ⟨_, rfl⟩
        rw [← hT2] at HI2 HS2
        clear hT2
        go_wp2_with (refine wpList_load_row rfl 28 _ rfl w.heap.size rfl 28 _ (0, 0) _ (RS.out _ HBW.out) Tryz.underlying28 rfl (scSize _ _ _ _ _) ?_)
        refine HI2.out.mono ?_
        rintro e wa ⟨y, rfl, hy, hba⟩
        have HY2 := Lib.hid hy
        obtain ⟨A9, c9, rfl, _⟩ := hy
        obtain ⟨k2, n2, s2, l2⟩ := T2
        simp only [Tt.kind, Tt.num, Tt.name, Tt.args] at HY2 ⊢
        have HBA := Lib.hid (below_then HBW.out hba)
        clear hba HI2
        have hltw := lt_of_cells (RS.out _ HBA.out)
        have hbz : Below wa.heap.size wa ((wa.alloc (.cells #[.int .i64 0, .int .i64 0, .string ⟨#[]⟩, .slice none 0 0] 25)).setRow wa.heap.size #[.int .i64 k2, .int .i64 n2, .string s2, .slice A9 l2.length c9]) := below_setRow (below_new _ _) (Nat.le_refl _)
        have HBZ := Lib.hid (below_then HBA.out hbz)
        have HYZ := Lib.hid (HY2.out.on hbz)
        have cz : ((wa.alloc (.cells #[.int .i64 0, .int .i64 0, .string ⟨#[]⟩, .slice none 0 0] 25)).setRow wa.heap.size #[.int .i64 k2, .int .i64 n2, .string s2, .slice A9 l2.length c9]).cell? ⟨w.heap.size, 0, none⟩ = some (.int .i64 v) := by rw [cell_of_row _ _ 0 _ _ _ (RS.out _ HBZ.out)]; rfl
        clear hbz
        go_wp2_with (first
          | refine wpList_store_row rfl 25 _ _ rfl wa.heap.size _ rfl rfl 25 #[.int .i64 0, .int .i64 0, .string ⟨#[]⟩, .slice none 0 0] (heap_alloc_new _ _) (tySizeA _ _ _ _) rfl (one4 _ _ _ _ _ _) ?_
          | refine wpList_load_row_yes (by kernel_rfl) 28 _ rfl w.heap.size rfl 28 _ (0, 0) _ (RS.out _ HBZ.out) Tryz.underlying28 rfl (scSize _ _ _ _ _) ?_
          | refine wpList_load_row_yes (by kernel_rfl) 25 _ rfl wa.heap.size rfl 25 _ (0, 0) _ (setRow_row (heap_alloc_new _ _)) Tryz.underlying25 rfl (tySizeA _ _ _ _) ?_)
        have hs2 : (pre (.mk k2 n2 s2 l2)).length ≤ 1048576 := by
          have h9 := HS2.out
          unfold sameS at h9
          rw [Bool.and_eq_true] at h9
          have := (rightS_iff.1 (more_iff.1 h9.1).2.1).2.2.1
          omega
        have hss := ssame_any (H0.out.on HBZ.out) (sval_of HYZ.out (v := v) (by omega)) hsz hs2
        rw [HS2.out] at hss
        have HSS := Lib.hid hss
        clear hss
        refine HSS.out.mono ?_
        rintro e wb ⟨rfl, hbb⟩
        have HBB := Lib.hid (below_then HBZ.out hbb)
        clear hbb
        go_wp2_with fail
        refine (HKN.out wb HBB.out).mono ?_
        rintro e w9 ⟨rfl, hb9⟩
        have HB9 := Lib.hid (below_then HB0.out (below_then HBB.out hb9))
        clear hb9
        go_wp2
        go_ret
        exact ⟨rfl, HB9.out⟩
end Go.Proofs.YtoopopjcojphaaaGreatDoor
