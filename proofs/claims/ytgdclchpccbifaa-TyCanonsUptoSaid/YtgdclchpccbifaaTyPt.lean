/-
  THE LAW TyPutTwice.
-/
import Derived.Test.YtgdclchpccbifaaTyPu
namespace Go.Proofs.Ytgdclchpccbifaa
open Go.ChangeShapes Go.WideShapes Go.ChangeAt Go.RowKit
set_option linter.unusedVariables false
theorem put_made {w : World} {a : Tt} {x : Value} (ha : Val w a x) {ls : List Tt} {Al : Option Addr} {cl : Nat} (hR : Rows TyR 4 w (Lt w.heap.size) Al ls) (hl : ls.length ≤ 1048576) : Calls Try.prog 28 #[x, .slice Al ls.length cl] w (Made w w.heap.size (putT ls a)) := by
  obtain ⟨A, c, rfl, d, ha⟩ := ha
  obtain ⟨k, n, s, l⟩ := a
  exact put_any d k n s l A c ls Al cl w _ (fun _ h => h) ha hR hl
theorem put_mapped {w : World} {a : Tt} {x : Value} (ha : Val w a x) {us : List Tt} {n : Nat} {Al : Option Addr} {cl : Nat} (hR : Rows TyR 4 w (Lt w.heap.size) Al us) (hn : us.length = n) (hl : n ≤ 1048576) : Calls Try.prog 28 #[x, .slice Al n cl] w (Gave w (putT us a)) := by
  subst hn
  exact put_val ha hR hl
/-- One element more, made of its cells in a new block. -/
theorem own_more {w1 w2 : World} {base : Nat} {v v' : Value} {us : List Tt} {u : Tt} {A : Option Addr} {c : Nat} {rows : List (List Value)} {S : Nat → Prop} (ho : OwnRows TyR 4 (w1.alloc (.cells #[.int .i64 u.kind, .int .i64 u.num, .string u.name, .slice A u.args.length c] 25)) base 25 v us rows)
    (hd : TyR.rd w1 S u [.int .i64 u.kind, .int .i64 u.num, .string u.name, .slice A u.args.length c]) (hS : ∀ b, S b → base ≤ b ∧ b < w1.heap.size ∧ v.ownBlock ≠ some b)
    (hown : w2.ownsRow base 25 4 v' (us.length + 1) (rows.flatten ++ [.int .i64 u.kind, .int .i64 u.num, .string u.name, .slice A u.args.length c])) (hg : (w1.alloc (.cells #[.int .i64 u.kind, .int .i64 u.num, .string u.name, .slice A u.args.length c] 25)).grownBy w2 v.ownBlock)
    (hv : v'.ownBlock = v.ownBlock ∨ v'.ownBlock = some (w1.alloc (.cells #[.int .i64 u.kind, .int .i64 u.num, .string u.name, .slice A u.args.length c] 25)).heap.size) : Own TyR 4 w2 base 25 v' (us ++ [u]) := by
  refine ho.snoc rfl ?_ hown hg hv
  refine TyR.more (S := S) (fun b hb => ⟨(hS b hb).1, by have := (hS b hb).2.1; simp; omega, (hS b hb).2.2⟩) (TyR.keep (Same.of_below (below_new w1 _) fun b hb => (hS b hb).2.1) hd)
set_option maxRecDepth 100000 in
set_option maxHeartbeats 16000000 in
theorem twice_run (k n : Int) (s : ByteArray) (l : List Tt) (A : Option Addr) (c : Nat) (ls : List Tt) (Al : Option Addr) (cl : Nat) (ks : List Tt) (Ak : Option Addr) (ck : Nat) (hsz : (pre (.mk k n s l)).length ≤ 1048576) (hls : ls.length ≤ 1048576) (hlsz : ∀ t ∈ ls, (pre t).length ≤ 1048576) (hks : ks.length ≤ 1048576) (hksz : ∀ t ∈ ks, (pre t).length ≤ 1048576) (w : World)
    (h : Val w (.mk k n s l) (.agg #[.int .i64 k, .int .i64 n, .string s, .slice A l.length c])) (hR : Rows TyR 4 w (Lt w.heap.size) Al ls) (hK : Rows TyR 4 w (Lt w.heap.size) Ak ks) : Calls Try.prog 6 #[.agg #[.int .i64 k, .int .i64 n, .string s, .slice A l.length c], .slice Al ls.length cl, .slice Ak ks.length ck] w fun e w' => e = .returned (.bool true) ∧ Below w.heap.size w w' := by
  obtain ⟨w0, hw0⟩ : ∃ w0, w0 = w.alloc (.cells #[.int .i64 k, .int .i64 n, .string s, .slice A l.length c] 25) := ⟨_, rfl⟩
  have hb0 : Below w.heap.size w w0 := by rw [hw0]; exact below_new _ _
  have hg0 : w0.heap[w.heap.size]? = some (.cells #[.int .i64 k, .int .i64 n, .string s, .slice A l.length c] 25 (0, 0)) := by rw [hw0]; exact heap_alloc_new _ _
  have HB := Lib.hid hb0
  have HG0 := Lib.hid hg0
  have HT := Lib.hid (h.on hb0)
  have HRR := Lib.hid (rows_on hR hb0)
  have HKR := Lib.hid (rows_on hK hb0)
  have HW0 := Lib.hid hw0
  have HLZ := Lib.hid hlsz
  have HKZ := Lib.hid hksz
  clear hb0 hg0 h hR hK hw0 hlsz hksz
  cases hf : formedT (.mk k n s l)
  · have HF := Lib.hid hf
    clear hf
    go_enter Try.func6, Try.ntmps6
    go_wp2_with fail
    rw [← HW0.out]
    refine (formed_val HT.out hsz).mono ?_
    rw [HF.out]
    rintro e w1 ⟨rfl, hb⟩
    have HRR := Lib.hid (rows_on HRR.out hb)
    have HKR := Lib.hid (rows_on HKR.out hb)
    have HT := Lib.hid (HT.out.on hb)
    have HG0 := Lib.hid (row_on HG0.out hb)
    have HB := Lib.hid (below_then HB.out hb)
    clear hb
    go_wp2_with (go_at_call 16; refine (knows_any _).mono ?_; rintro e w9 ⟨rfl, hb9⟩; have HB9 := Lib.hid hb9; clear hb9)
    go_ret
    exact ⟨rfl, below_then HB.out HB9.out⟩
  have HF := Lib.hid hf
  cases hfl : ls.all formedT
  · have HFL := Lib.hid hfl
    clear hf hfl
    go_enter Try.func6, Try.ntmps6
    go_wp2_with fail
    rw [← HW0.out]
    refine (formed_val HT.out hsz).mono ?_
    rw [HF.out]
    rintro e w1 ⟨rfl, hb⟩
    have HRR := Lib.hid (rows_on HRR.out hb)
    have HKR := Lib.hid (rows_on HKR.out hb)
    have HT := Lib.hid (HT.out.on hb)
    have HG0 := Lib.hid (row_on HG0.out hb)
    have HB := Lib.hid (below_then HB.out hb)
    clear hb
    go_wp2_with fail
    refine (lformed_any _ _ _ hls _ HRR.out HLZ.out).mono ?_
    rw [HFL.out]
    rintro e w2 ⟨rfl, hb⟩
    have HRR := Lib.hid (rows_on HRR.out hb)
    have HKR := Lib.hid (rows_on HKR.out hb)
    have HT := Lib.hid (HT.out.on hb)
    have HG0 := Lib.hid (row_on HG0.out hb)
    have HB := Lib.hid (below_then HB.out hb)
    clear hb
    go_wp2_with (go_at_call 16; refine (knows_any _).mono ?_; rintro e w9 ⟨rfl, hb9⟩; have HB9 := Lib.hid hb9; clear hb9)
    go_ret
    exact ⟨rfl, below_then HB.out HB9.out⟩
  have HFL := Lib.hid hfl
  cases hfk : ks.all formedT
  · have HFK := Lib.hid hfk
    clear hf hfl hfk
    go_enter Try.func6, Try.ntmps6
    go_wp2_with fail
    rw [← HW0.out]
    refine (formed_val HT.out hsz).mono ?_
    rw [HF.out]
    rintro e w1 ⟨rfl, hb⟩
    have HRR := Lib.hid (rows_on HRR.out hb)
    have HKR := Lib.hid (rows_on HKR.out hb)
    have HT := Lib.hid (HT.out.on hb)
    have HG0 := Lib.hid (row_on HG0.out hb)
    have HB := Lib.hid (below_then HB.out hb)
    clear hb
    go_wp2_with fail
    refine (lformed_any _ _ _ hls _ HRR.out HLZ.out).mono ?_
    rw [HFL.out]
    rintro e w2 ⟨rfl, hb⟩
    have HRR := Lib.hid (rows_on HRR.out hb)
    have HKR := Lib.hid (rows_on HKR.out hb)
    have HT := Lib.hid (HT.out.on hb)
    have HG0 := Lib.hid (row_on HG0.out hb)
    have HB := Lib.hid (below_then HB.out hb)
    clear hb
    go_wp2_with fail
    refine (lformed_any _ _ _ hks _ HKR.out HKZ.out).mono ?_
    rw [HFK.out]
    rintro e w3 ⟨rfl, hb⟩
    have HRR := Lib.hid (rows_on HRR.out hb)
    have HKR := Lib.hid (rows_on HKR.out hb)
    have HT := Lib.hid (HT.out.on hb)
    have HG0 := Lib.hid (row_on HG0.out hb)
    have HB := Lib.hid (below_then HB.out hb)
    clear hb
    go_wp2_with (go_at_call 16; refine (knows_any _).mono ?_; rintro e w9 ⟨rfl, hb9⟩; have HB9 := Lib.hid hb9; clear hb9)
    go_ret
    exact ⟨rfl, below_then HB.out HB9.out⟩
  have HFK := Lib.hid hfk
  have HFO := Lib.hid hf
  clear hf hfl hfk
  by_cases hl20 : ls.length ≤ 20
  case neg =>
    have q : (20 : Int) < ls.length := by omega
    go_enter Try.func6, Try.ntmps6
    go_wp2_with fail
    rw [← HW0.out]
    refine (formed_val HT.out hsz).mono ?_
    rw [HF.out]
    rintro e w1 ⟨rfl, hb⟩
    have HRR := Lib.hid (rows_on HRR.out hb)
    have HKR := Lib.hid (rows_on HKR.out hb)
    have HT := Lib.hid (HT.out.on hb)
    have HG0 := Lib.hid (row_on HG0.out hb)
    have HB := Lib.hid (below_then HB.out hb)
    clear hb
    go_wp2_with fail
    refine (lformed_any _ _ _ hls _ HRR.out HLZ.out).mono ?_
    rw [HFL.out]
    rintro e w2 ⟨rfl, hb⟩
    have HRR := Lib.hid (rows_on HRR.out hb)
    have HKR := Lib.hid (rows_on HKR.out hb)
    have HT := Lib.hid (HT.out.on hb)
    have HG0 := Lib.hid (row_on HG0.out hb)
    have HB := Lib.hid (below_then HB.out hb)
    clear hb
    go_wp2_with fail
    refine (lformed_any _ _ _ hks _ HKR.out HKZ.out).mono ?_
    rw [HFK.out]
    rintro e w3 ⟨rfl, hb⟩
    have HRR := Lib.hid (rows_on HRR.out hb)
    have HKR := Lib.hid (rows_on HKR.out hb)
    have HT := Lib.hid (HT.out.on hb)
    have HG0 := Lib.hid (row_on HG0.out hb)
    have HB := Lib.hid (below_then HB.out hb)
    clear hb
    go_wp2_with (go_at_call 16; refine (knows_any _).mono ?_; rintro e w9 ⟨rfl, hb9⟩; have HB9 := Lib.hid hb9; clear hb9)
    go_ret
    exact ⟨rfl, below_then HB.out HB9.out⟩
  by_cases hk20 : ks.length ≤ 20
  case neg =>
    have q0 : (ls.length : Int) ≤ 20 := by omega
    have q : (20 : Int) < ks.length := by omega
    go_enter Try.func6, Try.ntmps6
    go_wp2_with fail
    rw [← HW0.out]
    refine (formed_val HT.out hsz).mono ?_
    rw [HF.out]
    rintro e w1 ⟨rfl, hb⟩
    have HRR := Lib.hid (rows_on HRR.out hb)
    have HKR := Lib.hid (rows_on HKR.out hb)
    have HT := Lib.hid (HT.out.on hb)
    have HG0 := Lib.hid (row_on HG0.out hb)
    have HB := Lib.hid (below_then HB.out hb)
    clear hb
    go_wp2_with fail
    refine (lformed_any _ _ _ hls _ HRR.out HLZ.out).mono ?_
    rw [HFL.out]
    rintro e w2 ⟨rfl, hb⟩
    have HRR := Lib.hid (rows_on HRR.out hb)
    have HKR := Lib.hid (rows_on HKR.out hb)
    have HT := Lib.hid (HT.out.on hb)
    have HG0 := Lib.hid (row_on HG0.out hb)
    have HB := Lib.hid (below_then HB.out hb)
    clear hb
    go_wp2_with fail
    refine (lformed_any _ _ _ hks _ HKR.out HKZ.out).mono ?_
    rw [HFK.out]
    rintro e w3 ⟨rfl, hb⟩
    have HRR := Lib.hid (rows_on HRR.out hb)
    have HKR := Lib.hid (rows_on HKR.out hb)
    have HT := Lib.hid (HT.out.on hb)
    have HG0 := Lib.hid (row_on HG0.out hb)
    have HB := Lib.hid (below_then HB.out hb)
    clear hb
    go_wp2_with (go_at_call 16; refine (knows_any _).mono ?_; rintro e w9 ⟨rfl, hb9⟩; have HB9 := Lib.hid hb9; clear hb9)
    go_ret
    exact ⟨rfl, below_then HB.out HB9.out⟩
  have q0 : (ls.length : Int) ≤ 20 := by omega
  have q1 : (ks.length : Int) ≤ 20 := by omega
  obtain ⟨T, hT⟩ : ∃ T, T = Tt.mk k n s l := ⟨_, rfl⟩
  rw [← hT] at HF HFO HT hsz
  have HTE := Lib.hid hT
  clear hT
  go_enter Try.func6, Try.ntmps6
  go_wp2_with fail
  rw [← HW0.out]
  refine (formed_val HT.out hsz).mono ?_
  rw [HF.out]
  rintro e w1 ⟨rfl, hb⟩
  have HRR := Lib.hid (rows_on HRR.out hb)
  have HKR := Lib.hid (rows_on HKR.out hb)
  have HT := Lib.hid (HT.out.on hb)
  have HG0 := Lib.hid (row_on HG0.out hb)
  have HB := Lib.hid (below_then HB.out hb)
  clear hb
  go_wp2_with fail
  refine (lformed_any _ _ _ hls _ HRR.out HLZ.out).mono ?_
  rw [HFL.out]
  rintro e w2 ⟨rfl, hb⟩
  have HRR := Lib.hid (rows_on HRR.out hb)
  have HKR := Lib.hid (rows_on HKR.out hb)
  have HT := Lib.hid (HT.out.on hb)
  have HG0 := Lib.hid (row_on HG0.out hb)
  have HB := Lib.hid (below_then HB.out hb)
  clear hb
  go_wp2_with fail
  refine (lformed_any _ _ _ hks _ HKR.out HKZ.out).mono ?_
  rw [HFK.out]
  rintro e w3 ⟨rfl, hb⟩
  have HRR := Lib.hid (rows_on HRR.out hb)
  have HKR := Lib.hid (rows_on HKR.out hb)
  have HT := Lib.hid (HT.out.on hb)
  have HG0 := Lib.hid (row_on HG0.out hb)
  have HB := Lib.hid (below_then HB.out hb)
  clear hb
  obtain ⟨i0, hi, hi0, hi1, hi2⟩ := info_parts tyInfo
  have HI := Lib.hid (And.intro hi (And.intro hi0 (And.intro hi1 hi2)))
  clear hi hi0 hi1 hi2
  go_wp2
  go_loopw [7, 9] (fun v z wr => ∃ (j : Nat), j ≤ 20 ∧ z = .int .i64 j ∧ Own TyR 4 wr w3.heap.size 25 v (ownL j) ∧ Below w3.heap.size w3 wr) (fun _ z _ => 20 - (intOf z).toNat)
  case atStart => exact ⟨0, by omega, rfl, Own.nil _ _ _ _ _, Below.refl _ _⟩
  case round =>
    obtain ⟨j, hj, rfl, hown, hb⟩ := hrel
    have hz := hb.size
    by_cases hlt : j < 20
    · obtain ⟨A5, c5, hv, _⟩ := hown.form
      rw [ownL_len] at hv
      subst hv
      obtain ⟨rows, hrows⟩ := hown.below (below_new wr (.cells #[.int .i64 1, .int .i64 j, .string ⟨#[]⟩, .slice none 0 0] 25))
      have hlen := hrows.2.2.1
      rw [ownL_len] at hlen
      have HRO := Lib.hid hrows
      have HLEN := Lib.hid hlen
      have HOB := Lib.hid (And.intro hown hb)
      clear hown hb hrows hlen
      go_wp2_with (at_builtin; refine wpList_append_own_at _ rfl (.tmp 41) (.tmp 44) 23 rfl (w3.heap.size) 25 i0 (.agg #[.int .i64 0, .int .i64 0, .string ⟨#[]⟩, .slice none 0 0]) 4 56 Try.underlying23 HI.out.1 HI.out.2.1 HI.out.2.2.1 HI.out.2.2.2 rfl (by decide) (.slice A5 j c5) j rows.flatten rfl HLEN.out ⟨wr.heap.size, 0, none⟩ 1 1 [.int .i64 1, .int .i64 j, .string ⟨#[]⟩, .slice none 0 0] rfl rfl ?c1 ?c2 ?c3 ?c4 ?c5 ?_)
      case c1 => exact new_cells wr [.int .i64 1, .int .i64 j, .string ⟨#[]⟩, .slice none 0 0] 25
      case c2 => simp [Value.oneCell']
      case c3 => unfold maxLen; omega
      case c4 => omega
      case c5 => simp; omega
      intro v' w4 hown2 hgrow _ hv'
      obtain ⟨A4, n4, c4, rfl⟩ := own_slice hown2
      have HO := Lib.hid (And.intro hown2 (And.intro hgrow hv'))
      clear hown2 hgrow hv'
      go_wp2
      go_roundw
      case rel =>
        refine ⟨j + 1, by omega, by go_num, ?_, ?_⟩
        · rw [ownL_snoc]
          refine own_more (w1 := wr) (u := .mk 1 j ⟨#[]⟩ []) (A := none) (c := 0) (rows := rows) (S := fun _ => False) HRO.out (TyR.mk (by omega) (by simp) (by decide) Rows.nil) (fun b hb => hb.elim) (by rw [ownL_len]; exact HO.out.1) HO.out.2.1 (by simpa using HO.out.2.2)
        · exact (HOB.out.2.trans ((below_new wr _).mono hz)).grown HO.out.2.1 (by simp; omega) fun k hk => (HRO.out.2.2.1.lt k hk).1
      case measure => simp [intOf]; omega
    have ej : j = 20 := by omega
    rw [show ((j : Nat) : Int) = (20 : Int) by omega]
    subst ej
    obtain ⟨A5, c5, hv, _⟩ := hown.form
    rw [show (ownL 20).length = 20 from ownL_len 20] at hv
    subst hv
    have HOWN := Lib.hid (hown.rows.more (S' := Lt wr.heap.size) fun b hb => hb.2)
    have hrr := rows_on HRR.out hb
    have hkr := rows_on HKR.out hb
    have ht := HT.out.on hb
    have hg0 := row_on HG0.out hb
    have hbb := below_then HB.out hb
    clear hown hb
    have HRR := Lib.hid hrr
    have HKR := Lib.hid hkr
    have HT := Lib.hid ht
    have HG0 := Lib.hid hg0
    have HB := Lib.hid hbb
    clear hrr hkr ht hg0 hbb hz hlt
    obtain ⟨wf, rfl⟩ : ∃ wf : World, wf = wr := ⟨_, rfl⟩
    go_wp2
    go_loopw [8, 10] (fun v z wr => ∃ (j : Nat), j ≤ ls.length ∧ z = .int .i64 j ∧ Own TyR 4 wr wf.heap.size 25 v ((ls.take j).map (putT ks)) ∧ Below wf.heap.size wf wr) (fun _ z _ => ls.length - (intOf z).toNat)
    case atStart => exact ⟨0, by omega, rfl, Own.nil _ _ _ _ _, Below.refl _ _⟩
    case round =>
      obtain ⟨j, hj, rfl, hown, hb⟩ := hrel
      have hz := hb.size
      have hlj : ((ls.take j).map (putT ks)).length = j := by rw [List.length_map, List.length_take]; omega
      obtain ⟨A6, c6, hv, _⟩ := hown.form
      rw [hlj] at hv
      subst hv
      have HOB := Lib.hid (And.intro hown hb)
      have HLJ := Lib.hid hlj
      clear hown hb hlj
      by_cases hlt : j < ls.length
      · obtain ⟨b, o, cs, rfl, hSb, hr, hd⟩ := HRR.out.at_ hlt
        have HTM : Hid ((ls.take (j + 1)).map (putT ks) = (ls.take j).map (putT ks) ++ [putT ks ls[j]]) := Lib.hid (take_map _ _ _ hlt)
        generalize ls[j] = x at *
        obtain ⟨k2, n2, s2, l2⟩ := x
        obtain ⟨A2, c2, hcs, _⟩ := TyR.open_ hd
        simp only [Tt.kind, Tt.num, Tt.name, Tt.args] at hcs
        subst hcs
        have HROW : Hid (wr.rangeAt b (o + j * 4) [.int .i64 k2, .int .i64 n2, .string s2, .slice A2 l2.length c2]) := Lib.hid (range_keep hr HOB.out.2 hSb)
        have HCALL := Lib.hid (put_made (cl := ck) (Val.on (show Val wf (.mk k2 n2 s2 l2) _ from ⟨A2, c2, rfl, hd⟩) HOB.out.2) (rows_on HKR.out HOB.out.2) hks)
        generalize putT ks (.mk k2 n2 s2 l2) = P at *
        clear hr hd hSb
        go_wp2_with (refine wpList_load_mid rfl 25 _ rfl b (o + j * 4) rfl _ _ HROW.out Try.underlying25 rfl (tySize _ _ _ _) ?_)
        refine HCALL.out.mono ?_
        rintro e w5 ⟨A3, c3, rfl, h3, hb5⟩
        have hz5 := hb5.size
        have hob := HOB.out.1.below hb5
        have hobw := HOB.out.2.trans (hb5.mono hz)
        obtain ⟨rows, hrows⟩ := hob.below (below_new w5 (.cells #[.int .i64 P.kind, .int .i64 P.num, .string P.name, .slice A3 P.args.length c3] 25))
        have hlen := hrows.2.2.1
        rw [HLJ.out] at hlen
        have HRO := Lib.hid hrows
        have HLEN := Lib.hid hlen
        have HM := Lib.hid (And.intro h3 hb5)
        have HOW := Lib.hid hobw
        have HOL := Lib.hid (fun (b : Nat) (hb : Value.ownBlock (.slice A6 j c6) = some b) => (by obtain ⟨r, hr⟩ := HOB.out.1; exact (hr.2.2.1.lt b hb).2 : b < wr.heap.size))
        clear h3 hb5 hrows hlen hob hobw
        go_wp2_with (at_builtin; refine wpList_append_own_at _ rfl (.tmp 52) (.tmp 59) 23 rfl (wf.heap.size) 25 i0 (.agg #[.int .i64 0, .int .i64 0, .string ⟨#[]⟩, .slice none 0 0]) 4 56 Try.underlying23 HI.out.1 HI.out.2.1 HI.out.2.2.1 HI.out.2.2.2 rfl (by decide) (.slice A6 j c6) j rows.flatten rfl HLEN.out ⟨w5.heap.size, 0, none⟩ 1 1 [.int .i64 P.kind, .int .i64 P.num, .string P.name, .slice A3 P.args.length c3] rfl rfl ?c1 ?c2 ?c3 ?c4 ?c5 ?_)
        case c1 => exact new_cells w5 [.int .i64 P.kind, .int .i64 P.num, .string P.name, .slice A3 P.args.length c3] 25
        case c2 => simp [Value.oneCell']
        case c3 => unfold maxLen; omega
        case c4 => omega
        case c5 => simp; omega
        intro v' w6 hown2 hgrow _ hv'
        obtain ⟨A4, n4, c4, rfl⟩ := own_slice hown2
        have HO := Lib.hid (And.intro hown2 (And.intro hgrow hv'))
        clear hown2 hgrow hv'
        go_wp2
        go_roundw
        case rel =>
          refine ⟨j + 1, by omega, by go_num, ?_, ?_⟩
          · rw [HTM.out]
            refine own_more (w1 := w5) (u := P) (A := A3) (c := c3) (rows := rows) (S := New wr.heap.size w5) HRO.out HM.out.1 (fun b hb => ⟨Nat.le_trans hz hb.1, hb.2, fun e => by have := HOL.out b e; have := hb.1; omega⟩) (by rw [HLJ.out]; exact HO.out.1) HO.out.2.1 (by simpa using HO.out.2.2)
          · exact (HOW.out.trans ((below_new w5 _).mono (by omega))).grown HO.out.2.1 (by simp; omega) fun k hk => (HRO.out.2.2.1.lt k hk).1
        case measure => simp [intOf]; omega
      obtain rfl : j = ls.length := by omega
      rw [List.take_length] at HOB HLJ
      have hbo := HOB.out.1
      have hbb := HOB.out.2
      rw [← HLJ.out] at hbo
      have HBOTH : Hid (Rows TyR 4 wr (Lt wr.heap.size) A6 (ls.map (putT ks))) := Lib.hid (hbo.rows.more fun b hb => hb.2)
      have HRR := Lib.hid (rows_on HRR.out hbb)
      have HKR := Lib.hid (rows_on HKR.out hbb)
      have HOWN := Lib.hid (rows_on HOWN.out hbb)
      have HT := Lib.hid (HT.out.on hbb)
      have HG0 := Lib.hid (row_on HG0.out hbb)
      have HB := Lib.hid (below_then HB.out hbb)
      clear hbo hbb HOB hz hlt
      have HX0 : Hid (∀ W', Below wr.heap.size wr W' → W'.heap[w.heap.size]? = some (.cells #[.int .i64 k, .int .i64 n, .string s, .slice A l.length c] 25 (0, 0))) := Lib.hid fun W' h => row_on HG0.out h
      go_wp2
      refine wp_region_K (fun w' => Below wr.heap.size wr w') (fun j => true) (by kernel_rfl) ?_
      have HS := Lib.hid (below_drew1 (Below.refl wr.heap.size wr))
      have HT := Lib.hid (HT.out.on HS.out)
      have HRR := Lib.hid (rows_on HRR.out HS.out)
      have HKR := Lib.hid (rows_on HKR.out HS.out)
      have HOWN := Lib.hid (rows_on HOWN.out HS.out)
      have HBOTH := Lib.hid (rows_on HBOTH.out HS.out)
      refine wpK_take (v := .agg #[.int .i64 k, .int .i64 n, .string s, .slice A l.length c]) (a' := ?_) 0 rfl (by kernel_rfl) (by kernel_rfl) (by kernel_rfl) (by kernel_rfl) (by kernel_rfl) (fun _ _ _ h => h) HS.out ?_ ?_ ?_
      rotate_left 1
      · exact yieldsIf_load_mid (by kernel_rfl) 25 (.tmp 3) rfl (w.heap.size) 0 (by go_simp) _ _ (fun wS hS => range_row (HX0.out _ hS)) Try.underlying25 rfl (tySize _ _ _ _)
      · go_simp; with_reducible rfl
      refine wpK_take (v := .agg #[.int .i64 k, .int .i64 n, .string s, .slice A l.length c]) (a' := ?_) 2 rfl (by kernel_rfl) (by kernel_rfl) (by kernel_rfl) (by kernel_rfl) (by kernel_rfl) (fun _ _ _ h => h) HS.out ?_ ?_ ?_
      rotate_left 1
      · exact yieldsIf_load_mid (by kernel_rfl) 25 (.tmp 3) rfl (w.heap.size) 0 (by go_simp) _ _ (fun wS hS => range_row (HX0.out _ hS)) Try.underlying25 rfl (tySize _ _ _ _)
      · go_simp; with_reducible rfl
      refine wpK_one 1 rfl (by kernel_rfl) (fun K hK => ?_)
      have HKK := Lib.hid hK
      clear hK
      go_wp2_with fail
      refine (put_val (ls := []) HT.out Rows.nil (by simp)).mono ?_
      rw [put_nil]; rintro e w11 ⟨v11, rfl, hv, hb⟩
      have HS := Lib.hid (HS.out.trans (hb.mono HS.out.size))
      have HT := Lib.hid (HT.out.on hb)
      have HRR := Lib.hid (rows_on HRR.out hb)
      have HKR := Lib.hid (rows_on HKR.out hb)
      have HOWN := Lib.hid (rows_on HOWN.out hb)
      have HBOTH := Lib.hid (rows_on HBOTH.out hb)
      have HV := Lib.hid hv
      clear hb hv
      go_wp2
      refine HKK.out _ _ (fun _ _ => HS.out) ?_
      refine wpK_one 3 rfl (by kernel_rfl) (fun K hK => ?_)
      have HKK := Lib.hid hK
      clear hK
      go_wp2_with fail
      refine (same_self HV.out HT.out).mono ?_
      rintro e w12 ⟨rfl, hb⟩
      have HS := Lib.hid (HS.out.trans (hb.mono HS.out.size))
      have HT := Lib.hid (HT.out.on hb)
      have HRR := Lib.hid (rows_on HRR.out hb)
      have HKR := Lib.hid (rows_on HKR.out hb)
      have HOWN := Lib.hid (rows_on HOWN.out hb)
      have HBOTH := Lib.hid (rows_on HBOTH.out hb)
      clear hb
      go_wp2
      refine HKK.out _ _ (fun _ _ => HS.out) ?_
      refine wpK_take0 (v := ?_) (a' := ?_) 4 rfl (by kernel_rfl) (by kernel_rfl) (by kernel_rfl) (by kernel_rfl) (fun _ _ _ h => h) ?_ ?_ ?_
      rotate_left 2
      · refine .inl ⟨by kernel_rfl, ?_⟩; intro wS hS; clear hS; go_simp; with_reducible rfl
      · go_simp; with_reducible rfl
      refine wpK_take0 (v := ?_) (a' := ?_) 5 rfl (by kernel_rfl) (by kernel_rfl) (by kernel_rfl) (by kernel_rfl) (fun _ _ _ h => h) ?_ ?_ ?_
      rotate_left 2
      · refine .inl ⟨by kernel_rfl, ?_⟩; intro wS hS; clear hS; go_simp; with_reducible rfl
      · go_simp; with_reducible rfl
      refine wpK_take (v := .agg #[.int .i64 k, .int .i64 n, .string s, .slice A l.length c]) (a' := ?_) 6 rfl (by kernel_rfl) (by kernel_rfl) (by kernel_rfl) (by kernel_rfl) (by kernel_rfl) (fun _ _ _ h => h) HS.out ?_ ?_ ?_
      rotate_left 1
      · exact yieldsIf_load_mid (by kernel_rfl) 25 (.tmp 3) rfl (w.heap.size) 0 (by go_simp) _ _ (fun wS hS => range_row (HX0.out _ hS)) Try.underlying25 rfl (tySize _ _ _ _)
      · go_simp; with_reducible rfl
      refine wpK_take0 (v := ?_) (a' := ?_) 7 rfl (by kernel_rfl) (by kernel_rfl) (by kernel_rfl) (by kernel_rfl) (fun _ _ _ h => h) ?_ ?_ ?_
      rotate_left 2
      · refine .inl ⟨by kernel_rfl, ?_⟩; intro wS hS; clear hS; go_simp; with_reducible rfl
      · go_simp; with_reducible rfl
      refine wpK_take (v := .agg #[.int .i64 k, .int .i64 n, .string s, .slice A l.length c]) (a' := ?_) 9 rfl (by kernel_rfl) (by kernel_rfl) (by kernel_rfl) (by kernel_rfl) (by kernel_rfl) (fun _ _ _ h => h) HS.out ?_ ?_ ?_
      rotate_left 1
      · exact yieldsIf_load_mid (by kernel_rfl) 25 (.tmp 3) rfl (w.heap.size) 0 (by go_simp) _ _ (fun wS hS => range_row (HX0.out _ hS)) Try.underlying25 rfl (tySize _ _ _ _)
      · go_simp; with_reducible rfl
      refine wpK_one 8 rfl (by kernel_rfl) (fun K hK => ?_)
      have HKK := Lib.hid hK
      clear hK
      go_wp2_with fail
      refine (put_val (ls := ownL 20) (cl := c5) HT.out HOWN.out (by simp [ownL_len])).mono ?_
      rw [put_own 20 T HFO.out]; rintro e w13 ⟨v13, rfl, hv, hb⟩
      have HS := Lib.hid (HS.out.trans (hb.mono HS.out.size))
      have HT := Lib.hid (HT.out.on hb)
      have HRR := Lib.hid (rows_on HRR.out hb)
      have HKR := Lib.hid (rows_on HKR.out hb)
      have HOWN := Lib.hid (rows_on HOWN.out hb)
      have HBOTH := Lib.hid (rows_on HBOTH.out hb)
      have HV := Lib.hid hv
      clear hb hv
      go_wp2
      refine HKK.out _ _ (fun _ _ => HS.out) ?_
      refine wpK_one 10 rfl (by kernel_rfl) (fun K hK => ?_)
      have HKK := Lib.hid hK
      clear hK
      go_wp2_with fail
      refine (same_self HV.out HT.out).mono ?_
      rintro e w14 ⟨rfl, hb⟩
      have HS := Lib.hid (HS.out.trans (hb.mono HS.out.size))
      have HT := Lib.hid (HT.out.on hb)
      have HRR := Lib.hid (rows_on HRR.out hb)
      have HKR := Lib.hid (rows_on HKR.out hb)
      have HOWN := Lib.hid (rows_on HOWN.out hb)
      have HBOTH := Lib.hid (rows_on HBOTH.out hb)
      clear hb
      go_wp2
      refine HKK.out _ _ (fun _ _ => HS.out) ?_
      refine wpK_take0 (v := ?_) (a' := ?_) 11 rfl (by kernel_rfl) (by kernel_rfl) (by kernel_rfl) (by kernel_rfl) (fun _ _ _ h => h) ?_ ?_ ?_
      rotate_left 2
      · refine .inl ⟨by kernel_rfl, ?_⟩; intro wS hS; clear hS; go_simp; with_reducible rfl
      · go_simp; with_reducible rfl
      refine wpK_take0 (v := ?_) (a' := ?_) 12 rfl (by kernel_rfl) (by kernel_rfl) (by kernel_rfl) (by kernel_rfl) (fun _ _ _ h => h) ?_ ?_ ?_
      rotate_left 2
      · refine .inl ⟨by kernel_rfl, ?_⟩; intro wS hS; clear hS; go_simp; with_reducible rfl
      · go_simp; with_reducible rfl
      refine wpK_end (by kernel_rfl) ?_ _
      have HG0 := Lib.hid (HX0.out _ HS.out)
      have HB := Lib.hid (below_then HB.out HS.out)
      clear HX0 HS HV
      have hvl := Nat.le_trans (vars_le T) hsz
      go_wp2_with (refine wpList_load_row rfl 25 _ rfl w.heap.size rfl 25 #[.int .i64 k, .int .i64 n, .string s, .slice A l.length c] (0, 0) _ HG0.out Try.underlying25 rfl (tySizeA _ _ _ _) ?_)
      refine (vars_val HT.out hsz).mono ?_
      rintro e w15 ⟨A15, c15, rfl, hi, _, _, _, hb⟩
      have HVR := Lib.hid (put_both_vars (ls := ls) (ks := ks) HFO.out)
      have HIV := Lib.hid hi
      have HRR := Lib.hid (rows_on HRR.out hb)
      have HKR := Lib.hid (rows_on HKR.out hb)
      have HT := Lib.hid (HT.out.on hb)
      have HG0 := Lib.hid (row_on HG0.out hb)
      have HB := Lib.hid (below_then HB.out hb)
      have HBOTH := Lib.hid (rows_on HBOTH.out hb)
      clear hb hi
      generalize varsT T = vs at *
      go_wp2
      go_loopw [12] (fun z wr => ∃ j : Nat, j ≤ vs.length ∧ z = .int .i64 j ∧ (∀ i (h : i < vs.length), i < j → vs[i] < ls.length) ∧ wr = w15) (fun z _ => vs.length - (intOf z).toNat)
      case atStart => exact ⟨0, Nat.zero_le _, rfl, fun i _ h => absurd h (Nat.not_lt_zero _), rfl⟩
      case round =>
        obtain ⟨j, hj, rfl, hall, rfl⟩ := hrel
        have HALL := Lib.hid hall
        clear hall
        by_cases hlt : j < vs.length
        · obtain ⟨ad, rfl, _, hc⟩ := HIV.out.at_ hlt
          by_cases hge : vs[j] < ls.length
          · have HGE := Lib.hid hge
            go_wp2
            go_roundw
            case rel => exact ⟨j + 1, by omega, by go_num, fun i hi hij => (by by_cases e : i = j; (· subst e; exact HGE.out); (· exact HALL.out i hi (by omega))), (by first | trivial | rfl)⟩
            case measure => simp [intOf]; omega
          · have q : (ls.length : Int) ≤ vs[j] := by omega
            go_wp2_with (go_at_call 16; refine (knows_any _).mono ?_; rintro e w9 ⟨rfl, hb9⟩; have HB9 := Lib.hid hb9; clear hb9)
            go_ret
            exact ⟨rfl, below_then HB.out HB9.out⟩
        obtain rfl : j = vs.length := by omega
        have HEQ : Hid (putT ks (putT ls T) = putT (ls.map (putT ks)) T) := Lib.hid (HVR.out fun x hx => by
          obtain ⟨i, hi, rfl⟩ := List.getElem_of_mem hx
          exact HALL.out i hi hi)
        have HX0 : Hid (∀ W', Below wr.heap.size wr W' → W'.heap[w.heap.size]? = some (.cells #[.int .i64 k, .int .i64 n, .string s, .slice A l.length c] 25 (0, 0))) := Lib.hid fun W' h => row_on HG0.out h
        go_wp2
        refine wp_region_K (fun w' => Below wr.heap.size wr w') (fun j => true) (by kernel_rfl) ?_
        have HS := Lib.hid (below_drew1 (Below.refl wr.heap.size wr))
        have HT := Lib.hid (HT.out.on HS.out)
        have HRR := Lib.hid (rows_on HRR.out HS.out)
        have HKR := Lib.hid (rows_on HKR.out HS.out)
        have HBOTH := Lib.hid (rows_on HBOTH.out HS.out)
        refine wpK_take (v := .agg #[.int .i64 k, .int .i64 n, .string s, .slice A l.length c]) (a' := ?_) 0 rfl (by kernel_rfl) (by kernel_rfl) (by kernel_rfl) (by kernel_rfl) (by kernel_rfl) (fun _ _ _ h => h) HS.out ?_ ?_ ?_
        rotate_left 1
        · exact yieldsIf_load_mid (by kernel_rfl) 25 (.tmp 3) rfl (w.heap.size) 0 (by go_simp) _ _ (fun wS hS => range_row (HX0.out _ hS)) Try.underlying25 rfl (tySize _ _ _ _)
        · go_simp; with_reducible rfl
        refine wpK_take0 (v := ?_) (a' := ?_) 1 rfl (by kernel_rfl) (by kernel_rfl) (by kernel_rfl) (by kernel_rfl) (fun _ _ _ h => h) ?_ ?_ ?_
        rotate_left 2
        · refine .inl ⟨by kernel_rfl, ?_⟩; intro wS hS; clear hS; go_simp; with_reducible rfl
        · go_simp; with_reducible rfl
        refine wpK_take0 (v := ?_) (a' := ?_) 3 rfl (by kernel_rfl) (by kernel_rfl) (by kernel_rfl) (by kernel_rfl) (fun _ _ _ h => h) ?_ ?_ ?_
        rotate_left 2
        · refine .inl ⟨by kernel_rfl, ?_⟩; intro wS hS; clear hS; go_simp; with_reducible rfl
        · go_simp; with_reducible rfl
        refine wpK_take (v := .agg #[.int .i64 k, .int .i64 n, .string s, .slice A l.length c]) (a' := ?_) 5 rfl (by kernel_rfl) (by kernel_rfl) (by kernel_rfl) (by kernel_rfl) (by kernel_rfl) (fun _ _ _ h => h) HS.out ?_ ?_ ?_
        rotate_left 1
        · exact yieldsIf_load_mid (by kernel_rfl) 25 (.tmp 3) rfl (w.heap.size) 0 (by go_simp) _ _ (fun wS hS => range_row (HX0.out _ hS)) Try.underlying25 rfl (tySize _ _ _ _)
        · go_simp; with_reducible rfl
        refine wpK_take0 (v := ?_) (a' := ?_) 6 rfl (by kernel_rfl) (by kernel_rfl) (by kernel_rfl) (by kernel_rfl) (fun _ _ _ h => h) ?_ ?_ ?_
        rotate_left 2
        · refine .inl ⟨by kernel_rfl, ?_⟩; intro wS hS; clear hS; go_simp; with_reducible rfl
        · go_simp; with_reducible rfl
        refine wpK_one 2 rfl (by kernel_rfl) (fun K hK => ?_)
        have HKK := Lib.hid hK
        clear hK
        go_wp2_with fail
        refine (put_val HT.out HRR.out hls).mono ?_
        rintro e w21 ⟨v21, rfl, hv, hb⟩
        have HS := Lib.hid (HS.out.trans (hb.mono HS.out.size))
        have HT := Lib.hid (HT.out.on hb)
        have HRR := Lib.hid (rows_on HRR.out hb)
        have HKR := Lib.hid (rows_on HKR.out hb)
        have HBOTH := Lib.hid (rows_on HBOTH.out hb)
        have HV := Lib.hid hv
        clear hb hv
        go_wp2
        refine HKK.out _ _ (fun _ _ => HS.out) ?_
        refine wpK_one 4 rfl (by kernel_rfl) (fun K hK => ?_)
        have HKK := Lib.hid hK
        clear hK
        go_wp2_with fail
        refine (put_val HV.out HKR.out hks).mono ?_
        rintro e w22 ⟨v22, rfl, hv, hb⟩
        have HS := Lib.hid (HS.out.trans (hb.mono HS.out.size))
        have HT := Lib.hid (HT.out.on hb)
        have HRR := Lib.hid (rows_on HRR.out hb)
        have HKR := Lib.hid (rows_on HKR.out hb)
        have HBOTH := Lib.hid (rows_on HBOTH.out hb)
        have HV2 := Lib.hid hv
        clear hb hv
        go_wp2
        refine HKK.out _ _ (fun _ _ => HS.out) ?_
        refine wpK_one 7 rfl (by kernel_rfl) (fun K hK => ?_)
        have HKK := Lib.hid hK
        clear hK
        go_wp2_with fail
        refine (put_mapped (n := ls.length) (cl := c6) HT.out HBOTH.out (List.length_map _) hls).mono ?_
        rw [← HEQ.out]; rintro e w23 ⟨v23, rfl, hv, hb⟩
        have HS := Lib.hid (HS.out.trans (hb.mono HS.out.size))
        have HV2 := Lib.hid (HV2.out.on hb)
        have HV3 := Lib.hid hv
        clear hb hv
        go_wp2
        refine HKK.out _ _ (fun _ _ => HS.out) ?_
        refine wpK_one 8 rfl (by kernel_rfl) (fun K hK => ?_)
        have HKK := Lib.hid hK
        clear hK
        go_wp2_with fail
        refine (same_self HV2.out HV3.out).mono ?_
        rintro e w24 ⟨rfl, hb⟩
        have HS := Lib.hid (HS.out.trans (hb.mono HS.out.size))
        clear hb
        go_wp2
        refine HKK.out _ _ (fun _ _ => HS.out) ?_
        refine wpK_take0 (v := ?_) (a' := ?_) 9 rfl (by kernel_rfl) (by kernel_rfl) (by kernel_rfl) (by kernel_rfl) (fun _ _ _ h => h) ?_ ?_ ?_
        rotate_left 2
        · refine .inl ⟨by kernel_rfl, ?_⟩; intro wS hS; clear hS; go_simp; with_reducible rfl
        · go_simp; with_reducible rfl
        refine wpK_one 10 rfl (by kernel_rfl) (fun K hK => ?_)
        have HKK := Lib.hid hK
        clear hK
        go_wp2_with fail
        refine (knows_any _).mono ?_
        rintro e w25 ⟨rfl, hb⟩
        have HS := Lib.hid (HS.out.trans (hb.mono HS.out.size))
        clear hb
        go_wp2
        refine HKK.out _ _ (fun _ _ => HS.out) ?_
        refine wpK_take0 (v := ?_) (a' := ?_) 11 rfl (by kernel_rfl) (by kernel_rfl) (by kernel_rfl) (by kernel_rfl) (fun _ _ _ h => h) ?_ ?_ ?_
        rotate_left 2
        · refine .inl ⟨by kernel_rfl, ?_⟩; intro wS hS; clear hS; go_simp; with_reducible rfl
        · go_simp; with_reducible rfl
        refine wpK_take0 (v := ?_) (a' := ?_) 12 rfl (by kernel_rfl) (by kernel_rfl) (by kernel_rfl) (by kernel_rfl) (fun _ _ _ h => h) ?_ ?_ ?_
        rotate_left 2
        · refine .inl ⟨by kernel_rfl, ?_⟩; intro wS hS; clear hS; go_simp; with_reducible rfl
        · go_simp; with_reducible rfl
        refine wpK_end (by kernel_rfl) ?_ _
        go_wp2
        go_ret
        exact ⟨rfl, below_then HB.out HS.out⟩
end Go.Proofs.Ytgdclchpccbifaa
