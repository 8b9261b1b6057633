import Derived.Test.YtoopopjcojphaaaGreatDoorQK
import Derived.Test.YtoopopjcojphaaaGreatDoorQP
import Derived.Test.YtoopopjcojphaaaGreatDoorQL
/-
  CONTRACTS OF scheme, IV: Inst.
-/
namespace Go.Proofs.YtoopopjcojphaaaGreatDoor
open Go.ChangeShapes Go.WideShapes Go.ChangeAt Go.RowKit
set_option linter.unusedVariables false
/-- The first j types of ls stand in the map. -/
def PutM (w0 : World) (ls : List Tt) (j : Nat) (f' : Int → Option Value) : Prop := ∀ x : Int, match putF (ls.take j) x with | none => f' x = none | some u => ∃ v, f' x = some v ∧ Val w0 u v
theorem putF_nil (x : Int) : putF [] x = none := putF_out (by simp)
theorem PutM.nil {w0 : World} {ls : List Tt} : PutM w0 ls 0 (fun _ => none) := fun x => by
  rw [List.take_zero, putF_nil]
theorem PutM.next {w0 : World} {ls : List Tt} {j : Nat} {f' : Int → Option Value} {u : Tt} {v : Value} (h : PutM w0 ls j f') (hj : j < ls.length) (hu : ls[j] = u) (hv : Val w0 u v) : PutM w0 ls (j + 1) (putM f' (j : Int) v) := fun x => by
  have hx := h x
  have hl : (ls.take (j + 1)).length = j + 1 := by rw [List.length_take]; omega
  have hl0 : (ls.take j).length = j := by rw [List.length_take]; omega
  unfold putM
  by_cases he : x = j
  · subst he
    have e : putF (ls.take (j + 1)) (j : Int) = some u := by
      rw [putF_in (by rw [hl]; omega)]
      congr 1
      rw [← hu]
      simp
    rw [e, if_pos rfl]
    exact ⟨v, rfl, hv⟩
  · rw [if_neg he]
    by_cases hc : 0 ≤ x ∧ x < j
    · have e : putF (ls.take (j + 1)) x = putF (ls.take j) x := by
        rw [putF_in (by rw [hl]; omega), putF_in (by rw [hl0]; exact hc)]
        congr 1
        simp
      rw [e]; exact hx
    · have e1 : putF (ls.take (j + 1)) x = none := putF_out (by rw [hl]; omega)
      have e2 : putF (ls.take j) x = none := putF_out (by rw [hl0]; exact hc)
      rw [e2] at hx
      rw [e1]; exact hx
theorem PutM.all {w0 w : World} {ls : List Tt} {f' : Int → Option Value} {mb n : Nat} (h : PutM w0 ls ls.length f') (hm : ValMap Tryz.prog 3 w mb n f') (hb : Below w0.heap.size w0 w) : TMap w mb (putF ls) := by
  refine ⟨n, f', hm, fun x => ?_⟩
  have hx := h x
  rw [List.take_length] at hx
  cases hf : putF ls x with
  | none => rw [hf] at hx; exact hx
  | some u =>
    rw [hf] at hx
    obtain ⟨v, h1, h2⟩ := hx
    exact ⟨v, h1, h2.on hb⟩
theorem results_sinst {tmps : Array Value} {w : World} {g : Nat} {v : Value} {cs : Array Value} {t : TypeId} {fr : Nat × Nat} (hp : tmps.getD 4 undef = .pointer (some ⟨g, 0, none⟩)) (hv : tmps.getD 5 undef = v) (hg : w.heap[g]? = some (.cells cs t fr)) (hi : (Tryz.prog.info? 25).map (·.size) = some cs.size) :
    (results Tryz.f17 tmps).run Tryz.prog w = .ok (.tuple #[.agg cs, v]) w := by
  have hp' : tmps[4]?.getD undef = .pointer (some ⟨g, 0, none⟩) := by simpa using hp
  have hv' : tmps[5]?.getD undef = v := by simpa using hv
  simp [results, Tryz.f17, hp', hv', asAddr, run_loadVar_row w g t 25 _ _ _ hg Tryz.underlying25 rfl hi]
set_option maxRecDepth 100000 in
set_option maxHeartbeats 16000000 in
theorem sinst_any {w : World} {v : Int} {t : Tt} {x : Value} (h : SVal w v t x) (hsz : (pre t).length ≤ 1048576) {ls : List Tt} {Al : Option Addr} {cl : Nat} (hls0 : ls.length ≤ 1048576) (hsm : ∀ u ∈ ls, (pre u).length ≤ 1048576) (hR : Rows TyR 4 w (Lt w.heap.size) Al ls) (htot : rightS v t = true → ls.all rightT = true → (pre (rebT (putF ls) t)).length ≤ 1048576) :
    Calls Tryz.prog 17 #[x, .slice Al ls.length cl] w (InstPost w (instT v t ls) (instE v t ls)) := by
  have H := Lib.hid h
  have HV64 := Lib.hid h.v64
  obtain ⟨hv0, hv1⟩ := h.v64
  obtain ⟨A, c, rfl, _⟩ := h
  obtain ⟨k, n, s, m⟩ := t
  simp only [Tt.kind, Tt.num, Tt.name, Tt.args] at H ⊢
  obtain ⟨w0, hw0⟩ : ∃ w0, w0 = ((w.alloc (.cells #[.int .i64 v, .int .i64 k, .int .i64 n, .string s, .slice A m.length c] 28)).alloc (.cells #[.int .i64 0, .int .i64 0, .string ⟨#[]⟩, .slice none 0 0] 25)) := ⟨_, rfl⟩
  have hb0 : Below w.heap.size w w0 := by rw [hw0]; exact (below_new _ _).alloc (by simp) _
  have hg0 : w0.heap[w.heap.size]? = some (.cells #[.int .i64 v, .int .i64 k, .int .i64 n, .string s, .slice A m.length c] 28 (0, 0)) := by rw [hw0]; exact heap_alloc2_old _ _ _
  have hz0 : w0.heap[w.heap.size + 1]? = some (.cells #[.int .i64 0, .int .i64 0, .string ⟨#[]⟩, .slice none 0 0] 25 (0, 0)) := by rw [hw0]; exact heap_alloc2_new _ _ _
  have HV := Lib.hid (H.out.on hb0)
  have HRW := Lib.hid (hR.on hb0)
  have HR0 := Lib.hid hR
  have HB := Lib.hid hb0
  have HG0 := Lib.hid hg0
  have HZ0 := Lib.hid hz0
  have HW0 := Lib.hid hw0
  have HRT := Lib.hid (fun W (h : SVal W v (.mk k n s m) (.agg #[.int .i64 v, .int .i64 k, .int .i64 n, .string s, .slice A m.length c])) => sright_val h hsz)
  have HSM := Lib.hid hsm
  have HTOT := Lib.hid htot
  clear hb0 hg0 hz0 hw0 hR H hsm htot
  by_cases hr : rightS v (.mk k n s m) = true
  case neg =>
    have hr := Bool.eq_false_iff.2 hr
    have HI : Hid (instE v (.mk k n s m) ls = 1) := Lib.hid (by unfold instE; rw [if_pos (.inl hr)])
    rw [hr] at HRT
    clear hr
    go_enter Tryz.func17, Tryz.ntmps17
    go_upto_region 1 with fail
    rw [← HW0.out]
    go_wp2_with (refine wpList_load_row rfl 28 _ rfl w.heap.size rfl 28 _ (0, 0) _ HG0.out Tryz.underlying28 rfl (scSize _ _ _ _ _) ?_)
    refine (HRT.out _ HV.out).mono ?_
    rintro e w1 ⟨rfl, hb1⟩
    have HB1 := Lib.hid (below_then HB.out hb1)
    have HZ1 := Lib.hid (row_on HZ0.out hb1)
    clear hb1
    go_wp2_with (refine wpList_store_row rfl 25 _ _ rfl (w.heap.size + 1) _ rfl rfl 25 #[.int .i64 0, .int .i64 0, .string ⟨#[]⟩, .slice none 0 0] HZ1.out (tySizeA _ _ _ _) rfl (one4 _ _ _ _ _ _) ?_)
    refine bodyPost_ret (v := .tuple #[.agg #[.int .i64 0, .int .i64 0, .string ⟨#[]⟩, .slice none 0 0], .int .i64 1]) (results_sinst rfl rfl (setRow_row HZ1.out) (tySizeA _ _ _ _)) rfl ?_
    rw [inst_bad HI.out (by decide), HI.out]
    exact ⟨_, rfl, val_leaf _ _ _ _ (by omega) (by decide), below_setRow HB1.out (by omega)⟩
  have HRI := Lib.hid hr
  rw [hr] at HRT
  clear hr
  by_cases hlv : (ls.length : Int) = v
  case neg =>
    have q1 : ((ls.length : Int) == v) = false := by simpa using hlv
    have q2 : ((ls.length : Int) != v) = true := by simpa using hlv
    have HI : Hid (instE v (.mk k n s m) ls = 1) := Lib.hid (by unfold instE; rw [if_pos (.inr hlv)])
    clear hlv
    go_enter Tryz.func17, Tryz.ntmps17
    go_upto_region 1 with fail
    rw [← HW0.out]
    go_wp2_with (refine wpList_load_row rfl 28 _ rfl w.heap.size rfl 28 _ (0, 0) _ HG0.out Tryz.underlying28 rfl (scSize _ _ _ _ _) ?_)
    refine (HRT.out _ HV.out).mono ?_
    rintro e w1 ⟨rfl, hb1⟩
    have c0 : w1.cell? ⟨w.heap.size, 0, none⟩ = some (.int .i64 v) := by rw [cell_of_row w1 _ 0 _ _ _ (row_on HG0.out hb1)]; rfl
    have HB1 := Lib.hid (below_then HB.out hb1)
    have HZ1 := Lib.hid (row_on HZ0.out hb1)
    clear hb1
    go_wp2_with (refine wpList_store_row rfl 25 _ _ rfl (w.heap.size + 1) _ rfl rfl 25 #[.int .i64 0, .int .i64 0, .string ⟨#[]⟩, .slice none 0 0] HZ1.out (tySizeA _ _ _ _) rfl (one4 _ _ _ _ _ _) ?_)
    refine bodyPost_ret (v := .tuple #[.agg #[.int .i64 0, .int .i64 0, .string ⟨#[]⟩, .slice none 0 0], .int .i64 1]) (results_sinst rfl rfl (setRow_row HZ1.out) (tySizeA _ _ _ _)) rfl ?_
    rw [inst_bad HI.out (by decide), HI.out]
    exact ⟨_, rfl, val_leaf _ _ _ _ (by omega) (by decide), below_setRow HB1.out (by omega)⟩
  have HLV := Lib.hid hlv
  have q1 : ((ls.length : Int) == v) = true := by simpa using hlv
  have q2 : ((ls.length : Int) != v) = false := by simpa using hlv
  clear hlv
  have hFM := (rightS_iff.1 HRI.out).2.2.2
  have HFM := Lib.hid hFM
  clear hFM
  go_enter Tryz.func17, Tryz.ntmps17
  go_upto_region 1 with fail
  rw [← HW0.out]
  go_wp2_with (refine wpList_load_row rfl 28 _ rfl w.heap.size rfl 28 _ (0, 0) _ HG0.out Tryz.underlying28 rfl (scSize _ _ _ _ _) ?_)
  refine (HRT.out _ HV.out).mono ?_
  rintro e w1 ⟨rfl, hb1⟩
  have c0 : w1.cell? ⟨w.heap.size, 0, none⟩ = some (.int .i64 v) := by rw [cell_of_row w1 _ 0 _ _ _ (row_on HG0.out hb1)]; rfl
  have HBa := Lib.hid hb1
  clear hb1
  have hmm := @run_makeMap Tryz.prog
  have HM0 : Hid (∀ W : World, ValMap Tryz.prog 3 (W.alloc (.map #[] 0)) W.heap.size 0 (fun _ => none)) := Lib.hid fun W => ValMap.made _ _ W
  go_wp2
  have hz1 := HBa.out.size
  obtain ⟨mb, hmb⟩ : ∃ mb, mb = w1.heap.size := ⟨_, rfl⟩
  have HMB := Lib.hid hmb
  have hm01 : w0.heap.size ≤ mb := by omega
  have HBM : Hid (Below w0.heap.size w0 (w1.alloc (.map #[] 0))) := Lib.hid (HBa.out.alloc hz1 _)
  rw [← hmb]
  clear hmb
  go_loopw [24] (fun z wr => ∃ (j : Nat) (f' : Int → Option Value), j ≤ ls.length ∧ z = .int .i64 j ∧ (∀ i (h : i < ls.length), i < j → rightT ls[i] = true) ∧ Below w0.heap.size w0 wr ∧ ValMap Tryz.prog 3 wr mb j f' ∧ PutM w0 ls j f') (fun z _ => ls.length - (intOf z).toNat)
  case atStart =>
    refine ⟨0, fun _ => none, Nat.zero_le _, rfl, fun i _ h => absurd h (Nat.not_lt_zero _), HBM.out, ?_, PutM.nil⟩
    have := HM0.out w1
    rw [← HMB.out] at this; exact this
  case round =>
    obtain ⟨j, f', hj, rfl, hall, hbw, hvm, hpm⟩ := hrel
    have HALL := Lib.hid hall
    have HBW := Lib.hid hbw
    have HVM := Lib.hid (And.intro hvm hpm)
    have hmlt := hvm.lt
    have hwz := hbw.size
    clear hall hbw hvm hpm
    by_cases hlt : j < ls.length
    · obtain ⟨b, o, k2, n2, s2, m2, A2, c2, hx, rfl, hSb, hr, hv⟩ := rows_val (HRW.out.on HBW.out) hlt
      have HV0 : Hid (Val w0 (.mk k2 n2 s2 m2) (.agg #[.int .i64 k2, .int .i64 n2, .string s2, .slice A2 m2.length c2])) := Lib.hid (by
        obtain ⟨b', o', k3, n3, s3, m3, A3, c3, hx3, hA3, hS3, hr3, hv3⟩ := rows_val HRW.out hlt
        rw [hx] at hx3
        obtain ⟨rfl, rfl, rfl, rfl⟩ := Tt.mk.inj hx3
        simp only [Option.some.injEq, Addr.mk.injEq, and_true] at hA3
        obtain ⟨rfl, rfl⟩ := hA3
        have h3 := range_keep hr3 HBW.out hS3
        have e1 := hr 3 _ rfl
        have e2 := h3 3 _ rfl
        rw [e1] at e2
        simp only [Option.some.injEq, Value.slice.injEq, true_and] at e2
        obtain ⟨rfl, rfl⟩ := e2
        exact hv3)
      have hsz2 := HSM.out ls[j] (List.getElem_mem hlt)
      rw [hx] at hsz2
      obtain ⟨wy, hwy⟩ : ∃ wy, wy = wr.alloc (.cells #[.int .i64 k2, .int .i64 n2, .string s2, .slice A2 m2.length c2] 25) := ⟨_, rfl⟩
      have hby : Below wr.heap.size wr wy := by rw [hwy]; exact below_new _ _
      have hcy : wy.heap[wr.heap.size]? = some (.cells #[.int .i64 k2, .int .i64 n2, .string s2, .slice A2 m2.length c2] 25 (0, 0)) := by rw [hwy]; exact heap_alloc_new _ _
      have HR := Lib.hid hr
      have HCY := Lib.hid hcy
      have HC := Lib.hid (right_val (hv.on hby) hsz2 (low_all hv))
      have HX := Lib.hid hx
      have HWY := Lib.hid hwy
      have HBY := Lib.hid (below_then HBW.out hby)
      have HVY := Lib.hid (HVM.out.1.on hby)
      clear hr hv hx hsz2 hwy hby hcy
      cases hq : rightT (.mk k2 n2 s2 m2)
      · rw [hq] at HC
        have HI : Hid (instE v (.mk k n s m) ls = 1) := Lib.hid (by
          unfold instE
          rw [if_neg (by rw [HRI.out, HLV.out]; simp), if_pos]
          rw [List.all_eq_false]
          exact ⟨ls[j], List.getElem_mem hlt, by rw [HX.out, hq]; simp⟩)
        clear hq
        go_wp2_with (refine wpList_load_mid rfl 25 _ rfl b (o + j * 4) rfl _ _ HR.out Tryz.underlying25 rfl (tySize _ _ _ _) ?_)
        rw [← HWY.out]
        refine HC.out.mono ?_
        rintro e w2 ⟨rfl, hb2⟩
        have HB2 := Lib.hid (below_then HB.out (below_then HBY.out hb2))
        have HZ2 := Lib.hid (row_on HZ0.out (below_then HBY.out hb2))
        clear hb2
        go_wp2_with (refine wpList_store_row rfl 25 _ _ rfl (w.heap.size + 1) _ rfl rfl 25 #[.int .i64 0, .int .i64 0, .string ⟨#[]⟩, .slice none 0 0] HZ2.out (tySizeA _ _ _ _) rfl (one4 _ _ _ _ _ _) ?_)
        refine bodyPost_ret (v := .tuple #[.agg #[.int .i64 0, .int .i64 0, .string ⟨#[]⟩, .slice none 0 0], .int .i64 1]) (results_sinst rfl rfl (setRow_row HZ2.out) (tySizeA _ _ _ _)) rfl ?_
        rw [inst_bad HI.out (by decide), HI.out]
        exact ⟨_, rfl, val_leaf _ _ _ _ (by omega) (by decide), below_setRow HB2.out (by omega)⟩
      · rw [hq] at HC
        have HQ := Lib.hid hq
        clear hq
        go_wp2_with (refine wpList_load_mid rfl 25 _ rfl b (o + j * 4) rfl _ _ HR.out Tryz.underlying25 rfl (tySize _ _ _ _) ?_)
        rw [← HWY.out]
        refine HC.out.mono ?_
        rintro e w2 ⟨rfl, hb2⟩
        have HB2 := Lib.hid (below_then HBY.out hb2)
        have HC2 := Lib.hid (row_on HCY.out hb2)
        have HVM2 := Lib.hid (HVY.out.on hb2)
        obtain ⟨D, hD1, hD2, hD3⟩ := HVM2.out
        have HD := Lib.hid (And.intro hD1 (And.intro hD2 hD3))
        clear hb2 hD1 hD2 hD3
        go_wp2_with (first | (refine wpList_load_row rfl 25 _ rfl wr.heap.size rfl 25 _ (0, 0) _ HC2.out Tryz.underlying25 rfl (tySizeA _ _ _ _) ?_) | (refine wpList_mapUpdate_own _ rfl _ _ _ 47 rfl 3 25 (Maps.int_keyed Tryz.underlying3) Tryz.underlying47 heldElem mb j D rfl HD.out.1 (by unfold maxLen; omega) (.int .i64 j) (.agg #[.int .i64 k2, .int .i64 n2, .string s2, .slice A2 m2.length c2]) (.int .i64 j) rfl rfl (Maps.keyOf_int_mk Tryz.underlying3 (wf64 (by omega))) _ [] rfl ?_))
        intro w5 hown1 hg1
        have HN5 := Lib.hid (And.intro (ValMap.next HD.out.2.1 HD.out.2.2 hown1) (HB2.out.grown hg1 HB2.out.size fun k hk => by cases hk; exact hm01))
        clear hown1 hg1
        go_wp2
        go_roundw
        case rel => exact ⟨j + 1, _, by omega, by go_num, fun i hi hij => (by
          by_cases e : i = j
          · subst e; rw [HX.out]; exact HQ.out
          · exact HALL.out i hi (by omega)), HN5.out.2, HN5.out.1, HVM.out.2.next hlt HX.out HV0.out⟩
        case measure => simp [intOf]; omega
    · obtain rfl : j = ls.length := by omega
      have hall : ls.all rightT = true := List.all_eq_true.2 fun u hu => by
        obtain ⟨i, hi, he⟩ := List.getElem_of_mem hu
        rw [← he]; exact HALL.out i hi hi
      have htt := HTOT.out HRI.out hall
      have hTM : TMap wr mb (putF ls) := HVM.out.2.all HVM.out.1 HBW.out
      have hvt := (HV.out.on HBW.out).ty
      obtain ⟨_, _, hvv, d0, hd0⟩ := id hvt
      simp only [Value.agg.injEq, Array.mk.injEq, List.cons.injEq, Value.slice.injEq, and_true, true_and, Tt.kind, Tt.num, Tt.name, Tt.args] at hvv
      obtain ⟨rfl, rfl⟩ := hvv
      have hGW := row_on HG0.out HBW.out
      have hltg := lt_of_cells hGW
      have HRB := Lib.hid (reb_any d0 (.mk k n s m) w.heap.size 1 wr (Lt wr.heap.size) hTM (fun x hx => hx) ⟨hltg, _, range_tail hGW, hd0⟩)
      have HE : Hid (instE v (.mk k n s m) ls = if 256 < (pre (rebT (putF ls) (.mk k n s m))).length then 4 else 0) := Lib.hid (by
        unfold instE
        rw [if_neg (by rw [HRI.out, HLV.out]; simp), if_neg (by rw [hall]; simp)])
      have HU : Hid (∀ er, instE v (.mk k n s m) ls = er → er = 0 → instT v (.mk k n s m) ls = rebT (putF ls) (.mk k n s m)) := Lib.hid fun er h h0 => by unfold instT; rw [h, if_pos h0]
      have HZW := Lib.hid (row_on HZ0.out HBW.out)
      have hzz := lt_of_cells HZW.out
      have HBT := Lib.hid (below_then HB.out HBW.out)
      clear hall hvt hd0 hTM hGW
      generalize rebT (putF ls) (.mk k n s m) = T at *
      go_wp2_with fail
      refine HRB.out.mono ?_
      rintro e w3 ⟨A6, c6, rfl, h6, h7⟩
      obtain ⟨w4, hw4⟩ : ∃ w4, w4 = w3.alloc (.cells #[.int .i64 T.kind, .int .i64 T.num, .string T.name, .slice A6 T.args.length c6] 25) := ⟨_, rfl⟩
      have hb34 : Below w3.heap.size w3 w4 := by rw [hw4]; exact below_new _ _
      have hc4 : w4.heap[w3.heap.size]? = some (.cells #[.int .i64 T.kind, .int .i64 T.num, .string T.name, .slice A6 T.args.length c6] 25 (0, 0)) := by rw [hw4]; exact heap_alloc_new _ _
      have HV4 := Lib.hid ((Val.on ⟨A6, c6, rfl, TyR.more (fun b hb => hb.2) h6⟩ hb34 : Val w4 T (.agg #[.int .i64 T.kind, .int .i64 T.num, .string T.name, .slice A6 T.args.length c6])))
      have HN4 := Lib.hid (TyR.keep (Same.of_below hb34 fun b hb => hb.2) h6)
      have HC4 := Lib.hid hc4
      have HW4 := Lib.hid hw4
      have HB4 := Lib.hid (below_then h7 hb34)
      have hzw3 := h7.size
      have hzw34 := hb34.size
      have HSV := Lib.hid (size_val HV4.out htt)
      clear h6 h7 hw4 hb34 hc4
      by_cases hq : 256 < (pre T).length
      · have HI : Hid (instE v (.mk k n s m) ls = 4) := Lib.hid (by rw [HE.out, if_pos hq])
        generalize (pre T).length = q at *
        have hq' : (256 : Int) < q := by omega
        go_wp2_with fail
        rw [← HW4.out]
        refine HSV.out.mono ?_
        rintro e w5 ⟨rfl, hb5⟩
        have HB5 := Lib.hid (below_then HBT.out (below_then HB4.out hb5))
        have HZ5 := Lib.hid (row_on HZW.out (below_then HB4.out hb5))
        clear hb5
        go_wp2_with (refine wpList_store_row rfl 25 _ _ rfl (w.heap.size + 1) _ rfl rfl 25 #[.int .i64 0, .int .i64 0, .string ⟨#[]⟩, .slice none 0 0] HZ5.out (tySizeA _ _ _ _) rfl (one4 _ _ _ _ _ _) ?_)
        refine bodyPost_ret (v := .tuple #[.agg #[.int .i64 0, .int .i64 0, .string ⟨#[]⟩, .slice none 0 0], .int .i64 4]) (results_sinst rfl rfl (setRow_row HZ5.out) (tySizeA _ _ _ _)) rfl ?_
        rw [inst_bad HI.out (by decide), HI.out]
        exact ⟨_, rfl, val_leaf _ _ _ _ (by omega) (by decide), below_setRow HB5.out (by omega)⟩
      · have HI : Hid (instE v (.mk k n s m) ls = 0) := Lib.hid (by rw [HE.out, if_neg hq])
        generalize (pre T).length = q at *
        have hq' : ¬ ((256 : Int) < q) := by omega
        go_wp2_with fail
        rw [← HW4.out]
        refine HSV.out.mono ?_
        rintro e w5 ⟨rfl, hb5⟩
        have HB5 := Lib.hid (below_then HBT.out (below_then HB4.out hb5))
        have HZ5 := Lib.hid (row_on HZW.out (below_then HB4.out hb5))
        have HC5 := Lib.hid (row_on HC4.out hb5)
        have HN5 := Lib.hid (TyR.keep (Same.of_below (S := New wr.heap.size w3) hb5 fun b hb => by have := hb.2; omega) HN4.out)
        have hz45 := hb5.size
        clear hb5
        go_wp2_with (first | (refine wpList_load_row rfl 25 _ rfl w3.heap.size rfl 25 _ (0, 0) _ HC5.out Tryz.underlying25 rfl (tySizeA _ _ _ _) ?_) | (refine wpList_store_row rfl 25 _ _ rfl (w.heap.size + 1) _ rfl rfl 25 #[.int .i64 0, .int .i64 0, .string ⟨#[]⟩, .slice none 0 0] HZ5.out (tySizeA _ _ _ _) rfl (one4 _ _ _ _ _ _) ?_))
        refine bodyPost_ret (v := .tuple #[.agg #[.int .i64 T.kind, .int .i64 T.num, .string T.name, .slice A6 T.args.length c6], .int .i64 0]) (results_sinst rfl rfl (setRow_row HZ5.out) (tySizeA _ _ _ _)) rfl ?_
        rw [HU.out 0 HI.out rfl, HI.out]
        have hbs := below_setRow (r := #[.int .i64 T.kind, .int .i64 T.num, .string T.name, .slice A6 T.args.length c6]) HB5.out (show w.heap.size ≤ w.heap.size + 1 by omega)
        refine ⟨_, rfl, ⟨A6, c6, rfl, ?_⟩, hbs⟩
        refine TyR.more (S := New wr.heap.size w3) (fun b hb => ?_) (TyR.keep (fun b o hb => World.cell?_of_block (a := ⟨b, o, none⟩) (setRow_old ?_)) HN5.out)
        · show b < _
          rw [size_setRow]
          have := hb.2; omega
        · show b ≠ _
          have := hb.1; omega
end Go.Proofs.YtoopopjcojphaaaGreatDoor
/-
  PLAIN: the names of free variables are lower-case names; a scheme's type with names in the places of its free variables; the map of them.
-/
namespace Go.Proofs.YtoopopjcojphaaaGreatDoor
open Go.ChangeShapes Go.WideShapes Go.ChangeAt Go.RowKit
set_option linter.unusedVariables false
theorem dig_range (u : Nat) : ∀ c ∈ Lib.decDigits u, 48 ≤ c.toNat ∧ c.toNat ≤ 57 := by
  induction u using Nat.strongRecOn with
  | ind u ih =>
    intro c hc
    rw [Lib.decDigits] at hc
    split at hc
    · rename_i h
      rw [List.mem_singleton] at hc
      subst hc
      simp; omega
    · rename_i h
      rcases List.mem_append.1 hc with h1 | h1
      · exact ih (u / 10) (by omega) c h1
      · rw [List.mem_singleton] at h1
        subst h1
        simp; omega
theorem varTx_rest (i : Int) (h0 : 0 ≤ i) : ∀ c ∈ varTx i, restB c.toNat = true := by
  intro c hc
  unfold varTx at hc
  unfold restB
  rw [decide_eq_true_eq]
  rcases List.mem_cons.1 hc with rfl | h
  · have : i.toNat % 26 < 26 := Nat.mod_lt _ (by decide)
    have e : (UInt8.ofNat (97 + i.toNat % 26)).toNat = 97 + i.toNat % 26 := by simp; omega
    rw [e]; omega
  · split at h
    · obtain ⟨u, hu⟩ : ∃ u : Nat, i / 26 = u := ⟨(i / 26).toNat, by omega⟩
      rw [hu, Lib.itoa_nonneg] at h
      have := dig_range u c h
      omega
    · cases h
theorem low_freeN {i : Int} (h0 : 0 ≤ i) (h1 : i ≤ 9223372036854775807) : lowB (freeN i) = true := by
  have hl := varTx_len i h0 h1
  have hl1 : 1 ≤ (varTx i).length := by unfold varTx; simp
  have hsz : (freeN i).size = (varTx i).length + 1 := by show (95 :: varTx i).toArray.size = _; simp
  have hd : (freeN i).data.toList = 95 :: varTx i := by unfold freeN; simp
  have hb : ∀ k (hk : k < (95 :: varTx i).length), bt (freeN i) k = ((95 :: varTx i)[k]).toNat := fun k hk => by
    have hk' : k < (freeN i).size := by rw [hsz]; simpa using hk
    unfold bt
    rw [dif_pos hk']
    have e : (freeN i)[k] = (95 :: varTx i).toArray[k]'(by simpa using hk) := rfl
    rw [e]; simp
  have hw : ∀ x : ByteArray, x.data.toList.head? ≠ some 95 → x ≠ freeN i := fun x hx e => hx (by rw [e, hd]; rfl)
  have hwl : ∀ x ∈ wordsL, x.data.toList.head? ≠ some 95 := by decide
  unfold lowB shapedB letB
  simp only [Bool.and_eq_true, decide_eq_true_eq, Bool.false_eq_true, if_false, Bool.not_eq_true', List.any_eq_false, List.all_eq_true, List.mem_range, Bool.or_eq_true, beq_iff_eq]
  refine ⟨⟨⟨⟨⟨⟨⟨?_, ?_⟩, ?_⟩, ?_⟩, ?_⟩, ?_⟩, ?_⟩, fun x hx e => hw x (hwl x hx) e⟩
  · omega
  · omega
  · rw [hb 0 (by simp)]; right; rfl
  · intro k hk
    by_cases h : k = 0
    · exact .inl h
    · right
      obtain ⟨m, rfl⟩ : ∃ m, k = m + 1 := ⟨k - 1, by omega⟩
      rw [hb (m + 1) (by simp; omega)]
      exact varTx_rest i h0 _ (by simp)
  · intro e
    have := congrArg ByteArray.size e
    rw [hsz] at this
    have e2 : (⟨#[95]⟩ : ByteArray).size = 1 := rfl
    omega
  · exact fun e => hw _ (by decide) e.symm
  · exact fun e => hw _ (by decide) e.symm
/-- The name of a free variable, as a type. -/
def frT (i : Int) : Tt := .mk 2 0 (freeN i) []
theorem frT_formed {i : Int} (h0 : 0 ≤ i) (h1 : i ≤ 9223372036854775807) : formedT (frT i) = true := by
  refine formed_mk ?_ (fun t ht => by cases ht)
  unfold goodB
  have hl := low_freeN h0 h1
  have hne : ∀ x : ByteArray, x.data.toList.head? ≠ some 95 → freeN i ≠ x := fun x hx e => hx (by rw [← e]; simp [freeN])
  have ha : argsB (freeN i) = (0, 8) := by
    unfold argsB
    rw [if_neg, if_neg (hne _ (by decide)), if_neg (hne _ (by decide)), if_neg (hne _ (by decide))]
    rintro (h | h | h | h) <;> exact absurd h (hne _ (by decide))
  simp [Tt.kind, Tt.num, Tt.name, Tt.args, hl, ha]
/-- The free variables of a list stand for their names. -/
def frG (v : Int) (l : List Int) (x : Int) : Option Tt := if x ∈ l ∧ v ≤ x then some (frT (x - v)) else none
theorem frG_reb {v : Int} {t : Tt} : rebT (frG v (varsT t)) t = rebT (frF v) t := reb_congr t fun u hu hk => by
  have := vars_mem hu hk
  unfold frG frF frT
  by_cases h : v ≤ u.num
  · rw [if_pos ⟨this, h⟩, if_pos h]
  · rw [if_neg (fun q => h q.2), if_neg h]
theorem fr_formed {v : Int} {t : Tt} (hv : 0 ≤ v) (h : formedT t = true) (h64 : ∀ u ∈ pre t, u.num ≤ 9223372036854775807) : formedT (rebT (frF v) t) = true := reb_formed t h fun u hu hk x hx => by
  unfold frF at hx
  split at hx
  · cases hx
    exact frT_formed (by omega) (by have := h64 u hu; omega)
  · cases hx
theorem fr_len {v : Int} {t : Tt} (h : formedT t = true) : (pre (rebT (frF v) t)).length = (pre t).length := reb_len t h fun u hu hk x hx => by
  unfold frF at hx
  split at hx
  · cases hx; simp [pre, preL]
  · cases hx
mutual
theorem fr_small {v : Int} (hv : v ≤ 256) : ∀ t : Tt, formedT t = true → ∀ u ∈ pre (rebT (frF v) t), smallV u
  | .mk k n s l, h, u, hu => by
    by_cases hk : k = 1
    · obtain ⟨_, _, hl⟩ := formed_var h hk
      subst hk; subst hl
      by_cases hn : v ≤ n
      · rw [reb_var (u := frT (n - v)) (by unfold frF; rw [if_pos hn]; rfl)] at hu
        simp only [frT, pre, preL, List.mem_singleton] at hu
        subst hu
        intro hk; simp [Tt.kind] at hk
      · rw [reb_none (by unfold frF; rw [if_neg hn])] at hu
        simp only [List.map_nil, pre, preL, List.mem_singleton] at hu
        subst hu
        intro _; simp only [Tt.num]; omega
    · rw [reb_con hk] at hu
      rw [pre] at hu
      rcases List.mem_cons.1 hu with rfl | hu
      · intro h1; exact absurd h1 hk
      · exact fr_smallL hv l (formed_node h).2 u hu
theorem fr_smallL {v : Int} (hv : v ≤ 256) : ∀ l : List Tt, (∀ t ∈ l, formedT t = true) → ∀ u ∈ preL (l.map (rebT (frF v))), smallV u
  | [], _, u, hu => by simp [preL] at hu
  | t :: r, h, u, hu => by
    rw [List.map_cons, preL] at hu
    rcases List.mem_append.1 hu with h1 | h1
    · exact fr_small hv t (h t (List.mem_cons_self ..)) u h1
    · exact fr_smallL hv r (fun t ht => h t (List.mem_cons_of_mem _ ht)) u h1
end
theorem txS_ne {v : Int} : ∀ t : Tt, formedT t = true → txT (vtS v) t ≠ []
  | .mk k n s l, h => by
    by_cases hk : k = 1
    · subst hk; rw [tx_var]; unfold vtS; split <;> simp
    · obtain ⟨rfl, _, ha, hb⟩ := formed_con h hk
      rw [tx_con _ hk]
      unfold conTx
      split
      · rename_i h0
        intro e
        have hs : s = ⟨#[]⟩ := by cases s; congr 1; exact Array.toList_inj.1 e
        have := name_tok (formed_node h).1 hk ⟨#[]⟩ (by decide) (by decide) (by decide) (by decide)
        exact this hs
      · split
        · simp
        · split
          · rename_i h0 _ _
            intro e
            have hln : 2 ≤ l.length := hb (by assumption)
            match l, hln with
            | x :: y :: r, _ => simp [joinW] at e
          · split <;> simp
section
variable {v : Int} {l : List Int} {j : Nat} {w w' : World} {f' : Int → Option Value}
/-- The free ones of the first j variables stand in the map. -/
def FrM (v : Int) (l : List Int) (j : Nat) (w : World) (f' : Int → Option Value) : Prop := ∀ x, match frG v (l.take j) x with | none => f' x = none | some u => ∃ y, f' x = some y ∧ Val w u y
theorem FrM.nil : FrM v l 0 w (fun _ => none) := fun x => by
  rw [show frG v (l.take 0) x = none from if_neg (by simp)]
theorem FrM.on (h : FrM v l j w f') (hb : Below w.heap.size w w') : FrM v l j w' f' := fun x => by
  have := h x
  cases e : frG v (l.take j) x with
  | none => rw [e] at this; exact this
  | some u => rw [e] at this; obtain ⟨y, h1, h2⟩ := this; exact ⟨y, h1, h2.on hb⟩
theorem FrM.no (h : FrM v l j w f') (hj : j < l.length) (hv : l[j] < v) : FrM v l (j + 1) w f' := fun x => by
  have hx := h x
  have e : frG v (l.take (j + 1)) x = frG v (l.take j) x := by
    unfold frG
    rw [List.take_succ_eq_append_getElem hj]
    by_cases h1 : x ∈ l.take j ∧ v ≤ x
    · rw [if_pos h1, if_pos ⟨List.mem_append_left _ h1.1, h1.2⟩]
    · rw [if_neg h1, if_neg]
      rintro ⟨h2, h3⟩
      rcases List.mem_append.1 h2 with h4 | h4
      · exact h1 ⟨h4, h3⟩
      · rw [List.mem_singleton.1 h4] at h3; omega
  rw [e]; exact hx
theorem FrM.yes (h : FrM v l j w f') (hj : j < l.length) {x : Int} (hx : l[j] = x) (hv : v ≤ x) {y : Value} (hy : Val w (frT (x - v)) y) : FrM v l (j + 1) w (putM f' x y) := fun z => by
  have hz := h z
  unfold putM
  by_cases he : z = x
  · subst he
    rw [if_pos rfl, show frG v (l.take (j + 1)) z = some (frT (z - v)) from if_pos ⟨by rw [List.take_succ_eq_append_getElem hj, hx]; simp, hv⟩]
    exact ⟨y, rfl, hy⟩
  · rw [if_neg he]
    have e : frG v (l.take (j + 1)) z = frG v (l.take j) z := by
      unfold frG
      rw [List.take_succ_eq_append_getElem hj, hx]
      congr 1
      simp [he]
    rw [e]; exact hz
theorem FrM.all {mb n : Nat} (h : FrM v l l.length w f') (hm : ValMap Tryz.prog 3 w mb n f') : TMap w mb (frG v l) := by
  refine ⟨n, f', hm, fun x => ?_⟩
  have := h x
  rwa [List.take_length] at this
end
end Go.Proofs.YtoopopjcojphaaaGreatDoor
/-
  scheme.Show.
-/
namespace Go.Proofs.YtoopopjcojphaaaGreatDoor
open Go.ChangeShapes Go.WideShapes Go.ChangeAt Go.RowKit
set_option linter.unusedVariables false
theorem grown_of {w w' : World} {row : Option Nat} (h : Below w.heap.size w w') : w.grownBy w' row := ⟨h.os, h.tape, h.output, h.size, fun k hk _ => h.block k hk⟩
theorem frT_any {w : World} {i : Int} {y : Value} (h : Val w (frT i) y) (w' : World) : Val w' (frT i) y := by
  obtain ⟨A, c, rfl, hrd⟩ := h
  obtain ⟨_, _, _, _, _, hs, _⟩ := TyR.open_ hrd
  exact ⟨A, c, rfl, TyR.mk (k := 2) (n := 0) (s := freeN i) (l := []) (by omega) (by simp) hs (fun i t h => by simp at h)⟩
theorem FrM.any {v : Int} {l : List Int} {j : Nat} {w : World} {f' : Int → Option Value} (h : FrM v l j w f') (w' : World) : FrM v l j w' f' := fun x => by
  have hx := h x
  cases e : frG v (l.take j) x with
  | none => rw [e] at hx; exact hx
  | some u =>
    rw [e] at hx
    obtain ⟨y, h1, h2⟩ := hx
    have hu : u = frT (x - v) := by
      unfold frG at e
      split at e
      · exact (Option.some.inj e).symm
      · cases e
    subst hu
    exact ⟨y, h1, frT_any h2 w'⟩
theorem ints_grown {w w' : World} {A : Option Addr} {xs : List Int} {mb : Nat} (h : IntsAt w w.heap.size A xs) (hA : ∀ ad : Addr, A = some ad → mb < ad.block) (hg : w.grownBy w' (some mb)) : IntsAt w' w.heap.size A xs := fun k x hx => by
  obtain ⟨ad, e, hb, hc⟩ := h k x hx
  refine ⟨ad, e, hb, (World.cell?_of_block ?_).trans hc⟩
  rw [block_add]
  exact hg.block _ hb (fun q => by have := hA ad e; simp at q; omega)
set_option maxRecDepth 100000 in
set_option maxHeartbeats 16000000 in
theorem sshow_any {w : World} {v : Int} {t : Tt} {x : Value} (h : SVal w v t x) (hsz : (pre t).length ≤ 1048576) (hT : Lx.Tabs w) (hT2 : Nu.Pow10 w) : Calls Tryz.prog 15 #[x] w fun e w' => e = .returned (.string ⟨(showS v t).toArray⟩) ∧ Below w.heap.size w w' := by
  have H := Lib.hid h
  have HV64 := Lib.hid h.v64
  obtain ⟨hv0, hv1⟩ := h.v64
  obtain ⟨A, c, rfl, _⟩ := h
  obtain ⟨k, n, s, m⟩ := t
  simp only [Tt.kind, Tt.num, Tt.name, Tt.args] at H ⊢
  obtain ⟨w0, hw0⟩ : ∃ w0, w0 = w.alloc (.cells #[.int .i64 v, .int .i64 k, .int .i64 n, .string s, .slice A m.length c] 28) := ⟨_, rfl⟩
  have hb0 : Below w.heap.size w w0 := by rw [hw0]; exact below_new _ _
  have hg0 : w0.heap[w.heap.size]? = some (.cells #[.int .i64 v, .int .i64 k, .int .i64 n, .string s, .slice A m.length c] 28 (0, 0)) := by rw [hw0]; exact heap_alloc_new _ _
  have HV := Lib.hid (H.out.on hb0)
  have HB := Lib.hid hb0
  have HG0 := Lib.hid hg0
  have HW0 := Lib.hid hw0
  have HTT := Lib.hid (And.intro (hT.on hb0) (hT2.on hb0))
  have HRT := Lib.hid (fun W (h : SVal W v (.mk k n s m) (.agg #[.int .i64 v, .int .i64 k, .int .i64 n, .string s, .slice A m.length c])) => sright_val h hsz)
  have HSZ := Lib.hid hsz
  clear hb0 hg0 hw0 H hsz hT hT2
  by_cases hr : rightS v (.mk k n s m) = true
  case neg =>
    have hr := Bool.eq_false_iff.2 hr
    have HI : Hid ((⟨(showS v (.mk k n s m)).toArray⟩ : ByteArray) = ⟨#[]⟩) := Lib.hid (by unfold showS; rw [hr]; rfl)
    rw [hr] at HRT
    rw [HI.out]
    clear hr
    go_enter Tryz.func15, Tryz.ntmps15
    go_upto_region 1 with fail
    rw [← HW0.out]
    go_wp2_with (refine wpList_load_row rfl 28 _ rfl w.heap.size rfl 28 _ (0, 0) _ HG0.out Tryz.underlying28 rfl (scSize _ _ _ _ _) ?_)
    refine (HRT.out _ HV.out).mono ?_
    rintro e w1 ⟨rfl, hb1⟩
    have HB1 := Lib.hid (below_then HB.out hb1)
    clear hb1
    go_wp2
    go_ret
    exact ⟨rfl, HB1.out⟩
  obtain ⟨hv00, hv256, h256, hfm⟩ := rightS_iff.1 hr
  have HI : Hid ((⟨(showS v (.mk k n s m)).toArray⟩ : ByteArray) = ⟨(txT vtQ (rebT (frF v) (.mk k n s m))).toArray⟩) := Lib.hid (by
    unfold showS; rw [if_pos hr, (tx_free _ hfm).1]; rfl)
  have h64 := pre_64 (w := w0) (S := Lt w0.heap.size) (t := .mk k n s m)
  have HFR : Hid (formedT (rebT (frF v) (.mk k n s m)) = true ∧ (∀ u ∈ pre (rebT (frF v) (.mk k n s m)), smallV u) ∧ (pre (rebT (frF v) (.mk k n s m))).length ≤ 256 ∧ txT vtQ (rebT (frF v) (.mk k n s m)) ≠ []) := Lib.hid (by
    refine ⟨fr_formed hv00 hfm ?_, fr_small hv256 _ hfm, by rw [fr_len hfm]; exact h256, ?_⟩
    · intro u hu
      obtain ⟨_, _, hvv, d0, hd0⟩ := HV.out.ty
      simp only [Value.agg.injEq, Array.mk.injEq, List.cons.injEq, Value.slice.injEq, and_true, true_and, Tt.kind, Tt.num, Tt.name, Tt.args] at hvv
      obtain ⟨rfl, rfl⟩ := hvv
      exact (h64 d0 _ hd0 u hu).2
    · have := (tx_free (v := v) _ hfm).1
      rw [show (fun n => 39 :: varTx n) = vtQ from rfl] at this
      rw [← this]; exact txS_ne _ hfm)
  have hvl : (varsT (.mk k n s m)).length ≤ 256 := Nat.le_trans (vars_le _) h256
  have HV64s : Hid (∀ x ∈ varsT (.mk k n s m), -9223372036854775808 ≤ x ∧ x ≤ 9223372036854775807) := Lib.hid fun x hx => vars_64 HV.out.ty x hx
  have HVR := Lib.hid (fun (W : World) (h : Val W (.mk k n s m) (.agg #[.int .i64 k, .int .i64 n, .string s, .slice A m.length c])) => vars_val h HSZ.out)
  have HFG : Hid (rebT (frF v) (.mk k n s m) = rebT (frG v (varsT (.mk k n s m))) (.mk k n s m)) := Lib.hid frG_reb.symm
  rw [hr] at HRT
  rw [HI.out]
  clear hr h256 hfm h64 HI
  generalize rebT (frF v) (.mk k n s m) = T at *
  generalize varsT (.mk k n s m) = vs at *
  go_enter Tryz.func15, Tryz.ntmps15
  go_upto_region 1 with fail
  rw [← HW0.out]
  go_wp2_with (refine wpList_load_row rfl 28 _ rfl w.heap.size rfl 28 _ (0, 0) _ HG0.out Tryz.underlying28 rfl (scSize _ _ _ _ _) ?_)
  refine (HRT.out _ HV.out).mono ?_
  rintro e w1 ⟨rfl, hb1⟩
  have HB1 := Lib.hid hb1
  have hz1 := hb1.size
  obtain ⟨w2, hw2⟩ : ∃ w2, w2 = w1.alloc (.map #[] 0) := ⟨_, rfl⟩
  have hmb : ValMap Tryz.prog 3 w2 w1.heap.size 0 (fun _ => none) := by rw [hw2]; exact ValMap.made _ _ w1
  have hb12 : Below w1.heap.size w1 w2 := by rw [hw2]; exact below_new _ _
  have HB02 := Lib.hid (below_then hb1 hb12)
  have HMB := Lib.hid hmb
  have hz2 : w2.heap.size = w1.heap.size + 1 := by rw [hw2]; simp
  have HW2 := Lib.hid hw2
  have hmm := @run_makeMap Tryz.prog
  have HRG : Hid (w2.rangeAt w.heap.size 1 [.int .i64 k, .int .i64 n, .string s, .slice A m.length c]) := Lib.hid (range_tail (row_on HG0.out HB02.out))
  have HV2 := Lib.hid (HVR.out w2 (HV.out.on HB02.out).ty)
  clear hb1 hw2 hb12 hmb
  go_upto_region 4 with fail
  rw [← HW2.out]
  go_wp2_with (refine wpList_load_mid rfl 25 _ rfl w.heap.size 1 rfl _ _ HRG.out Tryz.underlying25 rfl (tySize _ _ _ _) ?_)
  refine HV2.out.mono ?_
  rintro e w3 ⟨A1, c1, rfl, hi1, hc1, hc2, hnew, hb3⟩
  have HI3 := Lib.hid (And.intro hi1 hnew)
  have HB3 := Lib.hid (below_then HB02.out hb3)
  have HM3 := Lib.hid (HMB.out.on hb3)
  have hz3 := hb3.size
  clear hi1 hnew hb3 hc1 hc2
  obtain ⟨mb, hmb⟩ : ∃ mb, mb = w1.heap.size := ⟨_, rfl⟩
  rw [← hmb] at HM3 HMB hz2 ⊢
  have hm0 : w0.heap.size ≤ mb := by omega
  have HMBE := Lib.hid hmb
  have hw00 := lt_of_cells HG0.out
  have HFB : Hid (∀ W, w3.grownBy W (some mb) → Below w0.heap.size w0 W) := Lib.hid fun W hg => HB3.out.grown hg HB3.out.size (fun k hk => by cases hk; exact hm0)
  have HA3 : Hid (∀ ad : Addr, A1 = some ad → mb < ad.block) := Lib.hid fun ad e => by have := HI3.out.2 ad e; omega
  clear hmb hz1
  go_wp2
  go_loopw [14] (fun z wr => ∃ (j n0 : Nat) (f' : Int → Option Value), j ≤ vs.length ∧ z = .int .i64 j ∧ n0 ≤ j ∧ ValMap Tryz.prog 3 wr mb n0 f' ∧ FrM v vs j wr f' ∧ w3.grownBy wr (some mb)) (fun z _ => vs.length - (intOf z).toNat)
  case atStart => exact ⟨0, 0, _, Nat.zero_le _, by rfl, Nat.le_refl _, HM3.out, FrM.nil, World.grownBy.refl _ _⟩
  case round =>
    obtain ⟨j, n0, f', hj, rfl, hn0, hvm, hfr, hgx⟩ := hrel
    have HVM := Lib.hid (And.intro hvm hfr)
    have HGX := Lib.hid hgx
    have hzx := hgx.size
    have HBX := Lib.hid (HFB.out _ hgx)
    have c0 : wr.cell? ⟨w.heap.size, 0, none⟩ = some (.int .i64 v) := by rw [cell_of_row wr _ 0 _ _ _ (row_on HG0.out HBX.out)]; rfl
    have HIX := Lib.hid (ints_grown HI3.out.1 HA3.out hgx)
    clear hvm hfr hgx
    by_cases hlt : j < vs.length
    · obtain ⟨ad, hAd, hadb, hcd⟩ := HIX.out.at_ hlt
      subst hAd
      have hx64 := HV64s.out _ (List.getElem_mem hlt)
      obtain ⟨xj, hxj⟩ : ∃ xj, vs[j] = xj := ⟨_, rfl⟩
      rw [hxj] at hcd hx64
      have HXJ := Lib.hid hxj
      by_cases hge : v ≤ xj
      · have HFN := Lib.hid (freeName_any (w := wr) (n := xj - v) (by omega) (by omega) (HTT.out.2.on HBX.out))
        clear hxj
        have hfs : (freeN (xj - v)).size ≤ 1048576 := by
          have := varTx_len (xj - v) (by omega) (by omega)
          show (95 :: varTx (xj - v)).toArray.size ≤ _
          simp; omega
        go_wp2_with fail
        refine HFN.out.mono ?_
        rintro e wa ⟨rfl, hba⟩
        have HBA := Lib.hid hba
        have hza := hba.size
        have HOF := Lib.hid (of_nil (w := wa) (freeN (xj - v)) hfs)
        clear hba
        go_wp2_with fail
        refine HOF.out.mono ?_
        rintro e wb ⟨y, rfl, hy, hbb⟩
        have HBB := Lib.hid (below_then HBA.out hbb)
        have HY := Lib.hid hy
        obtain ⟨A5, c5, rfl, _⟩ := hy
        have hzb := hbb.size
        have HVB := Lib.hid (And.intro (HVM.out.1.on HBB.out) (HVM.out.2.on HBB.out))
        obtain ⟨D, hD1, hD2, hD3⟩ := HVB.out.1
        have HD := Lib.hid (And.intro hD1 (And.intro hD2 hD3))
        have hmlt := hD1.lt
        clear hbb hD1 hD2 hD3
        go_wp2_with (refine wpList_mapUpdate_own _ rfl _ _ _ 47 rfl 3 25 (Maps.int_keyed Tryz.underlying3) Tryz.underlying47 heldElem mb n0 D rfl HD.out.1 (by unfold maxLen; omega) (.int .i64 xj) (.agg #[.int .i64 2, .int .i64 0, .string (freeN (xj - v)), .slice A5 0 c5]) (.int .i64 xj) rfl rfl (Maps.keyOf_int_mk Tryz.underlying3 (wf64 hx64)) _ [] rfl ?_)
        intro w5 hown1 hg1
        have HN5 := Lib.hid (And.intro (ValMap.next HD.out.2.1 HD.out.2.2 hown1) (And.intro hg1 ((HGX.out.trans (grown_of HBB.out)).trans hg1)))
        clear hown1 hg1
        go_wp2
        go_roundw
        case rel =>
          refine ⟨j + 1, n0 + 1, _, by omega, by go_num, by omega, HN5.out.1, ?_, HN5.out.2.2⟩
          exact (HVB.out.2.any w5).yes hlt HXJ.out hge (frT_any HY.out w5)
        case measure => simp [intOf]; omega
      · have hlt2 : xj < v := by omega
        clear hge hxj
        go_wp2
        go_roundw
        case rel => exact ⟨j + 1, n0, f', by omega, by go_num, by omega, HVM.out.1, HVM.out.2.no hlt (by rw [HXJ.out]; exact hlt2), HGX.out⟩
        case measure => simp [intOf]; omega
    · obtain rfl : j = vs.length := by omega
      have hTM : TMap wr mb (frG v vs) := HVM.out.2.all HVM.out.1
      have hvt := (HV.out.on HBX.out).ty
      obtain ⟨_, _, hvv, d0, hd0⟩ := id hvt
      simp only [Value.agg.injEq, Array.mk.injEq, List.cons.injEq, Value.slice.injEq, and_true, true_and, Tt.kind, Tt.num, Tt.name, Tt.args] at hvv
      obtain ⟨rfl, rfl⟩ := hvv
      have hGW := row_on HG0.out HBX.out
      have hltg := lt_of_cells hGW
      have HRB := Lib.hid (reb_any d0 (.mk k n s m) w.heap.size 1 wr (Lt wr.heap.size) hTM (fun x hx => hx) ⟨hltg, _, range_tail hGW, hd0⟩)
      rw [← HFG.out] at HRB
      clear hTM hvt hd0 hGW
      go_wp2_with fail
      refine HRB.out.mono ?_
      rintro e w4 ⟨A6, c6, rfl, h6, h7⟩
      have HB4 := Lib.hid (below_then HB.out (below_then HBX.out h7))
      have HST := Lib.hid (showType_val (w := w4) (t := T) ⟨A6, c6, rfl, TyR.more (fun b hb => hb.2) h6⟩ HFR.out.1 HFR.out.2.1 HFR.out.2.2.1 ((HTT.out.1.on HBX.out).on h7) ((HTT.out.2.on HBX.out).on h7) HFR.out.2.2.2)
      clear h6 h7
      go_wp2_with fail
      refine HST.out.mono ?_
      rintro e w5 ⟨rfl, h8⟩
      have HB5 := Lib.hid (below_then HB4.out h8)
      clear h8
      go_wp2
      go_ret
      exact ⟨rfl, HB5.out⟩
end Go.Proofs.YtoopopjcojphaaaGreatDoor
