/-
  THE REFERENCE's Alike.
-/
import Derived.Test.YtgdclchpccbifaaTyPu
import Derived.Test.YtgdclchpccbifaaTyCn
namespace Go.Proofs.Ytgdclchpccbifaa
open Go.ChangeShapes Go.WideShapes Go.ChangeAt Go.RowKit
set_option linter.unusedVariables false
/-- The nodes of a type, in a slice of n. -/
theorem nodes_val {w : World} {a : Tt} {x : Value} {n : Nat} {P : List Tt} (ha : Val w a x) (hp : pre a = P) (hsz : P.length ≤ 1048576) (hn : P.length = n) : Calls Try.prog 44 #[x, .int .i64 0] w fun e w' => ∃ A c, e = .returned (.slice A n c) ∧ Rows (NdR 0) 47 w' (Lt w'.heap.size) A P ∧ Below w.heap.size w w' := by
  subst hn
  subst hp
  obtain ⟨A, c, rfl, d, ha⟩ := ha
  obtain ⟨k, n, s, l⟩ := a
  refine (ofTy_any 0 d k n s l A c w _ (fun _ h => h) hsz ha).mono ?_
  rintro e w' ⟨A1, c1, rows, rfl, ho, hb⟩
  exact ⟨A1, c1, rfl, ho.rows.more fun b hb' => hb'.elim (fun h => Nat.lt_of_lt_of_le h hb.size) fun h => h.2, hb⟩
theorem nrows_on {w w' : World} {A : Option Addr} {l : List Tt} (h : Rows (NdR 0) 47 w (Lt w.heap.size) A l) (hb : Below w.heap.size w w') : Rows (NdR 0) 47 w' (Lt w'.heap.size) A l := (h.keep (Same.lt hb)).more fun b hB => Nat.lt_of_lt_of_le hB hb.size
/-- The two boxes of a round. -/
def Pair (wr wx : World) (x y : List Value) (s8 s9 : Value) : Prop := ∃ g1 g2, s8 = .pointer (some ⟨g1, 0, none⟩) ∧ s9 = .pointer (some ⟨g2, 0, none⟩) ∧ wx.heap[g1]? = some (.cells x.toArray 25 (0, 0)) ∧ wx.heap[g2]? = some (.cells y.toArray 25 (0, 0)) ∧ Below wr.heap.size wr wx
theorem box_cells {w : World} {g : Nat} {a b c d : Value} (h : w.heap[g]? = some (.cells #[a, b, c, d] 25 (0, 0))) : w.cell? ⟨g, 0, none⟩ = some a ∧ w.cell? ⟨g, 1, none⟩ = some b ∧ w.cell? ⟨g, 2, none⟩ = some c ∧ w.cell? ⟨g, 3, none⟩ = some d := by
  refine ⟨?_, ?_, ?_, ?_⟩ <;> rw [cell_of_row w g _ _ _ _ h] <;> rfl
theorem not_node {P Q : List Tt} {j : Nat} (h : ¬ nodeLike P Q j) : ¬ Alike P Q := fun ha => h (ha.2 j).1
theorem not_var {P Q : List Tt} {i k : Nat} (hk : k < i) (h : ¬ varLike P Q i k) : ¬ Alike P Q := fun ha => h ((ha.2 i).2 k hk)
theorem below_put {B g : Nat} {w0 w : World} (hb : Below B w0 w) (hBg : B ≤ g) (cs : Array Value) : Below B w0 (w.setRow g cs) := ⟨hb.os, hb.tape, hb.output, by rw [size_setRow]; exact hb.size, fun k hk => (setRow_old (by omega)).trans (hb.block k hk)⟩
theorem no_iff {p : Prop} (h : ¬ p) : (false = true ↔ p) := ⟨fun e => (by cases e), fun e => absurd e h⟩
theorem yes_iff {p : Prop} (h : p) : (true = true ↔ p) := ⟨fun _ => h, fun _ => rfl⟩
set_option maxRecDepth 100000 in
set_option maxHeartbeats 16000000 in
theorem alike_run (k n : Int) (s : ByteArray) (l : List Tt) (A : Option Addr) (c : Nat) (k' n' : Int) (s' : ByteArray) (l' : List Tt) (A' : Option Addr) (c' : Nat) (hsz : (pre (.mk k n s l)).length ≤ 1048576) (hsz' : (pre (.mk k' n' s' l')).length ≤ 1048576) (w : World)
    (h : Val w (.mk k n s l) (.agg #[.int .i64 k, .int .i64 n, .string s, .slice A l.length c])) (h' : Val w (.mk k' n' s' l') (.agg #[.int .i64 k', .int .i64 n', .string s', .slice A' l'.length c'])) : Calls Try.prog 30 #[.agg #[.int .i64 k, .int .i64 n, .string s, .slice A l.length c], .agg #[.int .i64 k', .int .i64 n', .string s', .slice A' l'.length c']] w fun e w' => ∃ v, e = .returned (.bool v) ∧ (v = true ↔ Alike (pre (.mk k n s l)) (pre (.mk k' n' s' l'))) ∧ Below w.heap.size w w' := by
  obtain ⟨w0, hw0⟩ : ∃ w0, w0 = (w.alloc (.cells #[.int .i64 k, .int .i64 n, .string s, .slice A l.length c] 25)).alloc (.cells #[.int .i64 k', .int .i64 n', .string s', .slice A' l'.length c'] 25) := ⟨_, rfl⟩
  have hb0 : Below w.heap.size w w0 := by rw [hw0]; exact (below_new _ _).alloc (by simp) _
  have hg1 : w0.heap[w.heap.size]? = some (.cells #[.int .i64 k, .int .i64 n, .string s, .slice A l.length c] 25 (0, 0)) := by rw [hw0]; exact (Below.heap_alloc _ _ _ (by rw [World.size_alloc]; omega)).trans (heap_alloc_new _ _)
  have hg2 : w0.heap[w.heap.size + 1]? = some (.cells #[.int .i64 k', .int .i64 n', .string s', .slice A' l'.length c'] 25 (0, 0)) := by rw [hw0]; have := heap_alloc_new (w.alloc (.cells #[.int .i64 k, .int .i64 n, .string s, .slice A l.length c] 25)) (.cells #[.int .i64 k', .int .i64 n', .string s', .slice A' l'.length c'] 25); rwa [World.size_alloc] at this
  have HB := Lib.hid hb0
  have HX0 : Hid (∀ W', Below w0.heap.size w0 W' → W'.heap[w.heap.size]? = some (.cells #[.int .i64 k, .int .i64 n, .string s, .slice A l.length c] 25 (0, 0)) ∧ W'.heap[w.heap.size + 1]? = some (.cells #[.int .i64 k', .int .i64 n', .string s', .slice A' l'.length c'] 25 (0, 0))) := Lib.hid fun W' h => ⟨row_on hg1 h, row_on hg2 h⟩
  have HT := Lib.hid (h.on hb0)
  have HT2 := Lib.hid (h'.on hb0)
  have HSZ := Lib.hid hsz
  have HSZ2 := Lib.hid hsz'
  have HW0 := Lib.hid hw0
  clear hb0 hg1 hg2 h h' hw0
  obtain ⟨a, ha⟩ : ∃ a, a = Tt.mk k n s l := ⟨_, rfl⟩
  obtain ⟨a', ha'⟩ : ∃ a', a' = Tt.mk k' n' s' l' := ⟨_, rfl⟩
  rw [← ha] at HT HSZ hsz ⊢
  rw [← ha'] at HT2 HSZ2 hsz' ⊢
  clear ha ha'
  obtain ⟨P, hpa⟩ : ∃ P, pre a = P := ⟨_, rfl⟩
  obtain ⟨Q, hqa⟩ : ∃ Q, pre a' = Q := ⟨_, rfl⟩
  rw [hpa] at HSZ hsz ⊢
  rw [hqa] at HSZ2 hsz' ⊢
  have HP := Lib.hid hpa
  have HQ := Lib.hid hqa
  clear hpa hqa
  obtain ⟨N, hN⟩ : ∃ N, P.length = N := ⟨_, rfl⟩
  obtain ⟨M, hM⟩ : ∃ M, Q.length = M := ⟨_, rfl⟩
  rw [hN] at hsz
  rw [hM] at hsz'
  have HN := Lib.hid hN
  have HM := Lib.hid hM
  clear hN hM
  by_cases hlen : N = M
  case neg =>
    have q : ((N : Int) != M) = true := by simpa using fun e : (N : Int) = M => hlen (by omega)
    go_enter Try.func30, Try.ntmps30
    go_upto_region 1 with fail
    rw [← HW0.out]
    refine wp_region_K (fun w' => Below w0.heap.size w0 w') (fun j => true) (by kernel_rfl) ?_
    have HS := Lib.hid (below_drew1 (Below.refl w0.heap.size w0))
    have HT := Lib.hid (HT.out.on HS.out)
    have HT2 := Lib.hid (HT2.out.on HS.out)
    refine wpK_take (v := .agg #[.int .i64 k, .int .i64 n, .string s, .slice A l.length c]) (a' := ?_) 0 rfl (by kernel_rfl) (by kernel_rfl) (by kernel_rfl) (by kernel_rfl) (by kernel_rfl) (fun _ _ _ h => h) HS.out ?_ ?_ ?_
    rotate_left 1
    · exact yieldsIf_load_mid (by kernel_rfl) 25 (.tmp 2) rfl (w.heap.size) 0 (by go_simp) _ _ (fun wS hS => range_row (HX0.out _ hS).1) Try.underlying25 rfl (tySize _ _ _ _)
    · go_simp; with_reducible rfl
    refine wpK_take (v := .agg #[.int .i64 k', .int .i64 n', .string s', .slice A' l'.length c']) (a' := ?_) 2 rfl (by kernel_rfl) (by kernel_rfl) (by kernel_rfl) (by kernel_rfl) (by kernel_rfl) (fun _ _ _ h => h) HS.out ?_ ?_ ?_
    rotate_left 1
    · exact yieldsIf_load_mid (by kernel_rfl) 25 (.tmp 3) rfl (w.heap.size + 1) 0 (by go_simp) _ _ (fun wS hS => range_row (HX0.out _ hS).2) Try.underlying25 rfl (tySize _ _ _ _)
    · go_simp; with_reducible rfl
    refine wpK_one 1 rfl (by kernel_rfl) (fun K hK => ?_)
    have HKK := Lib.hid hK
    clear hK
    go_wp2_with fail
    refine (nodes_val HT.out HP.out HSZ.out HN.out).mono ?_
    rintro e w1 ⟨A1, c1, rfl, hx, hb⟩
    have HS := Lib.hid (HS.out.trans (hb.mono HS.out.size))
    have HT := Lib.hid (HT.out.on hb)
    have HT2 := Lib.hid (HT2.out.on hb)
    have HX := Lib.hid hx
    clear hb hx
    go_wp2
    refine HKK.out _ _ (fun _ _ => HS.out) ?_
    refine wpK_one 3 rfl (by kernel_rfl) (fun K hK => ?_)
    have HKK := Lib.hid hK
    clear hK
    go_wp2_with fail
    refine (nodes_val HT2.out HQ.out HSZ2.out HM.out).mono ?_
    rintro e w2 ⟨A2, c2, rfl, hy, hb⟩
    have HS := Lib.hid (HS.out.trans (hb.mono HS.out.size))
    have HX := Lib.hid (nrows_on HX.out hb)
    have HY := Lib.hid hy
    clear hb hy
    go_wp2
    refine HKK.out _ _ (fun _ _ => HS.out) ?_
    refine wpK_take0 (v := ?_) (a' := ?_) 4 rfl (by kernel_rfl) (by kernel_rfl) (by kernel_rfl) (by kernel_rfl) (fun _ _ _ h => h) ?_ ?_ ?_
    rotate_left 2
    · refine .inl ⟨by kernel_rfl, ?_⟩; intro wS hS; clear hS; go_simp; with_reducible rfl
    · go_simp; with_reducible rfl
    refine wpK_take0 (v := ?_) (a' := ?_) 5 rfl (by kernel_rfl) (by kernel_rfl) (by kernel_rfl) (by kernel_rfl) (fun _ _ _ h => h) ?_ ?_ ?_
    rotate_left 2
    · refine .inl ⟨by kernel_rfl, ?_⟩; intro wS hS; clear hS; go_simp; with_reducible rfl
    · go_simp; with_reducible rfl
    refine wpK_end (by kernel_rfl) ?_ _
    go_wp2
    go_ret
    exact ⟨false, rfl, no_iff fun ha => hlen (by rw [← HN.out, ← HM.out]; exact ha.1), below_then HB.out HS.out⟩
  subst hlen
  have q : ((N : Int) != N) = false := by simp
  go_enter Try.func30, Try.ntmps30
  go_upto_region 1 with fail
  rw [← HW0.out]
  refine wp_region_K (fun w' => Below w0.heap.size w0 w') (fun j => true) (by kernel_rfl) ?_
  have HS := Lib.hid (below_drew1 (Below.refl w0.heap.size w0))
  have HT := Lib.hid (HT.out.on HS.out)
  have HT2 := Lib.hid (HT2.out.on HS.out)
  refine wpK_take (v := .agg #[.int .i64 k, .int .i64 n, .string s, .slice A l.length c]) (a' := ?_) 0 rfl (by kernel_rfl) (by kernel_rfl) (by kernel_rfl) (by kernel_rfl) (by kernel_rfl) (fun _ _ _ h => h) HS.out ?_ ?_ ?_
  rotate_left 1
  · exact yieldsIf_load_mid (by kernel_rfl) 25 (.tmp 2) rfl (w.heap.size) 0 (by go_simp) _ _ (fun wS hS => range_row (HX0.out _ hS).1) Try.underlying25 rfl (tySize _ _ _ _)
  · go_simp; with_reducible rfl
  refine wpK_take (v := .agg #[.int .i64 k', .int .i64 n', .string s', .slice A' l'.length c']) (a' := ?_) 2 rfl (by kernel_rfl) (by kernel_rfl) (by kernel_rfl) (by kernel_rfl) (by kernel_rfl) (fun _ _ _ h => h) HS.out ?_ ?_ ?_
  rotate_left 1
  · exact yieldsIf_load_mid (by kernel_rfl) 25 (.tmp 3) rfl (w.heap.size + 1) 0 (by go_simp) _ _ (fun wS hS => range_row (HX0.out _ hS).2) Try.underlying25 rfl (tySize _ _ _ _)
  · go_simp; with_reducible rfl
  refine wpK_one 1 rfl (by kernel_rfl) (fun K hK => ?_)
  have HKK := Lib.hid hK
  clear hK
  go_wp2_with fail
  refine (nodes_val HT.out HP.out HSZ.out HN.out).mono ?_
  rintro e w1 ⟨A1, c1, rfl, hx, hb⟩
  have HS := Lib.hid (HS.out.trans (hb.mono HS.out.size))
  have HT := Lib.hid (HT.out.on hb)
  have HT2 := Lib.hid (HT2.out.on hb)
  have HX := Lib.hid hx
  clear hb hx
  go_wp2
  refine HKK.out _ _ (fun _ _ => HS.out) ?_
  refine wpK_one 3 rfl (by kernel_rfl) (fun K hK => ?_)
  have HKK := Lib.hid hK
  clear hK
  go_wp2_with fail
  refine (nodes_val HT2.out HQ.out HSZ2.out HM.out).mono ?_
  rintro e w2 ⟨A2, c2, rfl, hy, hb⟩
  have HS := Lib.hid (HS.out.trans (hb.mono HS.out.size))
  have HX := Lib.hid (nrows_on HX.out hb)
  have HY := Lib.hid hy
  clear hb hy
  go_wp2
  refine HKK.out _ _ (fun _ _ => HS.out) ?_
  refine wpK_take0 (v := ?_) (a' := ?_) 4 rfl (by kernel_rfl) (by kernel_rfl) (by kernel_rfl) (by kernel_rfl) (fun _ _ _ h => h) ?_ ?_ ?_
  rotate_left 2
  · refine .inl ⟨by kernel_rfl, ?_⟩; intro wS hS; clear hS; go_simp; with_reducible rfl
  · go_simp; with_reducible rfl
  refine wpK_take0 (v := ?_) (a' := ?_) 5 rfl (by kernel_rfl) (by kernel_rfl) (by kernel_rfl) (by kernel_rfl) (fun _ _ _ h => h) ?_ ?_ ?_
  rotate_left 2
  · refine .inl ⟨by kernel_rfl, ?_⟩; intro wS hS; clear hS; go_simp; with_reducible rfl
  · go_simp; with_reducible rfl
  refine wpK_end (by kernel_rfl) ?_ _
  have HB := Lib.hid (below_then HB.out HS.out)
  clear HS HX0 HT HT2 HSZ HSZ2
  go_wp2
  go_loopw [7] (fun z wr => ∃ j : Nat, j ≤ N ∧ z = .int .i64 j ∧ (∀ i, i < j → nodeLike P Q i ∧ ∀ m, m < i → varLike P Q i m) ∧ Below w2.heap.size w2 wr) (fun z _ => N - (intOf z).toNat)
  case atStart => exact ⟨0, Nat.zero_le _, rfl, fun i h => absurd h (Nat.not_lt_zero _), Below.refl _ _⟩
  case round =>
    obtain ⟨j, hj, rfl, hall, hb⟩ := hrel
    have HALL := Lib.hid hall
    have HBR := Lib.hid hb
    have HX := Lib.hid (nrows_on HX.out hb)
    have HY := Lib.hid (nrows_on HY.out hb)
    clear hall hb
    by_cases hlt : j < N
    case neg =>
      go_wp2
      go_ret
      refine ⟨true, rfl, yes_iff ⟨by rw [HN.out, HM.out], fun i => ?_⟩, below_then HB.out HBR.out⟩
      by_cases hi : i < j
      · exact HALL.out i hi
      · exact ⟨fun h1 => absurd h1 (by have := HN.out; omega), fun m _ h1 => absurd h1 (by have := HN.out; omega)⟩
    have hP : j < P.length := by have := HN.out; omega
    have hQ : j < Q.length := by have := HM.out; omega
    obtain ⟨b, o, cs, rfl, hSb, hr, hd⟩ := HX.out.at_ hP
    obtain ⟨b2, o2, cs2, rfl, hSb2, hr2, hd2⟩ := HY.out.at_ hQ
    obtain ⟨A3, c3, hr, hd⟩ := nd_part hr hd
    obtain ⟨A4, c4, hr2, hd2⟩ := nd_part hr2 hd2
    obtain ⟨_, hl3, hs3⟩ := TyR.bounds hd
    obtain ⟨_, hl4, hs4⟩ := TyR.bounds hd2
    have HNL : Hid ((P[j].kind = Q[j].kind ∧ P[j].name = Q[j].name ∧ P[j].args.length = Q[j].args.length ∧ (P[j].kind ≠ 1 → P[j].num = Q[j].num)) ↔ nodeLike P Q j) := Lib.hid ⟨fun h _ _ => h, fun h => h hP hQ⟩
    have HVL : Hid (∀ m (h1 : m < P.length) (h2 : m < Q.length), (P[j].kind = 1 → P[m].kind = 1 → (P[m].num = P[j].num ↔ Q[m].num = Q[j].num)) ↔ varLike P Q j m) := Lib.hid fun m h1 h2 => ⟨fun h _ _ _ _ => h, fun h => h hP hQ h1 h2⟩
    generalize P[j] = x at *
    generalize Q[j] = y at *
    obtain ⟨kx, nx, sx, lx⟩ := x
    obtain ⟨ky, ny, sy, ly⟩ := y
    simp only [Tt.kind, Tt.num, Tt.name, Tt.args] at hr hr2 hl3 hl4 hs3 hs4 HNL HVL
    have HRR : Hid (∀ W', Below wr.heap.size wr W' → W'.rangeAt b (o + j * 47 + 22) [.int .i64 kx, .int .i64 nx, .string sx, .slice A3 lx.length c3] ∧ W'.rangeAt b2 (o2 + j * 47 + 22) [.int .i64 ky, .int .i64 ny, .string sy, .slice A4 ly.length c4]) := Lib.hid fun W' h => ⟨range_keep hr h hSb, range_keep hr2 h hSb2⟩
    clear hr hd hr2 hd2 hSb hSb2
    go_upto_region 7 with fail
    go_cut [8, 9] (fun s8 s9 wx => Pair wr wx [.int .i64 kx, .int .i64 nx, .string sx, .slice A3 lx.length c3] [.int .i64 ky, .int .i64 ny, .string sy, .slice A4 ly.length c4] s8 s9)
    case first =>
      refine wp_region_K (fun w' => Below wr.heap.size wr w') (fun j => true) (by kernel_rfl) ?_
      have HS := Lib.hid (below_drew1 (Below.refl wr.heap.size wr))
      refine wpK_take0 (v := ?_) (a' := ?_) 0 rfl (by kernel_rfl) (by kernel_rfl) (by kernel_rfl) (by kernel_rfl) (fun _ _ _ h => h) ?_ ?_ ?_
      rotate_left 2
      · refine .inl ⟨by kernel_rfl, ?_⟩; intro wS hS; clear hS; go_simp; with_reducible rfl
      · go_simp; with_reducible rfl
      refine wpK_take0 (v := ?_) (a' := ?_) 1 rfl (by kernel_rfl) (by kernel_rfl) (by kernel_rfl) (by kernel_rfl) (fun _ _ _ h => h) ?_ ?_ ?_
      rotate_left 2
      · refine .inl ⟨by kernel_rfl, ?_⟩; intro wS hS; clear hS; go_simp; with_reducible rfl
      · go_simp; with_reducible rfl
      refine wpK_take0 (v := ?_) (a' := ?_) 2 rfl (by kernel_rfl) (by kernel_rfl) (by kernel_rfl) (by kernel_rfl) (fun _ _ _ h => h) ?_ ?_ ?_
      rotate_left 2
      · refine .inl ⟨by kernel_rfl, ?_⟩; intro wS hS; clear hS; go_simp; with_reducible rfl
      · go_simp; with_reducible rfl
      refine wpK_take0 (v := ?_) (a' := ?_) 3 rfl (by kernel_rfl) (by kernel_rfl) (by kernel_rfl) (by kernel_rfl) (fun _ _ _ h => h) ?_ ?_ ?_
      rotate_left 2
      · refine .inl ⟨by kernel_rfl, ?_⟩; intro wS hS; clear hS; go_simp; with_reducible rfl
      · go_simp; with_reducible rfl
      refine wpK_take (v := .agg #[.int .i64 kx, .int .i64 nx, .string sx, .slice A3 lx.length c3]) (a' := ?_) 4 rfl (by kernel_rfl) (by kernel_rfl) (by kernel_rfl) (by kernel_rfl) (by kernel_rfl) (fun _ _ _ h => h) HS.out ?_ ?_ ?_
      rotate_left 1
      · exact yieldsIf_load_mid (by kernel_rfl) 25 (.tmp 29) rfl b (o + j * 47 + 22) (by go_simp) _ _ (fun wS hS => (HRR.out _ hS).1) Try.underlying25 rfl (tySize _ _ _ _)
      · go_simp; with_reducible rfl
      refine wpK_take0 (v := ?_) (a' := ?_) 5 rfl (by kernel_rfl) (by kernel_rfl) (by kernel_rfl) (by kernel_rfl) (fun _ _ _ h => h) ?_ ?_ ?_
      rotate_left 2
      · refine .inl ⟨by kernel_rfl, ?_⟩; intro wS hS; clear hS; go_simp; with_reducible rfl
      · go_simp; with_reducible rfl
      refine wpK_take0 (v := ?_) (a' := ?_) 6 rfl (by kernel_rfl) (by kernel_rfl) (by kernel_rfl) (by kernel_rfl) (fun _ _ _ h => h) ?_ ?_ ?_
      rotate_left 2
      · refine .inl ⟨by kernel_rfl, ?_⟩; intro wS hS; clear hS; go_simp; with_reducible rfl
      · go_simp; with_reducible rfl
      refine wpK_take0 (v := ?_) (a' := ?_) 7 rfl (by kernel_rfl) (by kernel_rfl) (by kernel_rfl) (by kernel_rfl) (fun _ _ _ h => h) ?_ ?_ ?_
      rotate_left 2
      · refine .inl ⟨by kernel_rfl, ?_⟩; intro wS hS; clear hS; go_simp; with_reducible rfl
      · go_simp; with_reducible rfl
      refine wpK_take0 (v := ?_) (a' := ?_) 8 rfl (by kernel_rfl) (by kernel_rfl) (by kernel_rfl) (by kernel_rfl) (fun _ _ _ h => h) ?_ ?_ ?_
      rotate_left 2
      · refine .inl ⟨by kernel_rfl, ?_⟩; intro wS hS; clear hS; go_simp; with_reducible rfl
      · go_simp; with_reducible rfl
      refine wpK_take (v := .agg #[.int .i64 ky, .int .i64 ny, .string sy, .slice A4 ly.length c4]) (a' := ?_) 9 rfl (by kernel_rfl) (by kernel_rfl) (by kernel_rfl) (by kernel_rfl) (by kernel_rfl) (fun _ _ _ h => h) HS.out ?_ ?_ ?_
      rotate_left 1
      · exact yieldsIf_load_mid (by kernel_rfl) 25 (.tmp 34) rfl b2 (o2 + j * 47 + 22) (by go_simp) _ _ (fun wS hS => (HRR.out _ hS).2) Try.underlying25 rfl (tySize _ _ _ _)
      · go_simp; with_reducible rfl
      refine wpK_two 10 11 rfl rfl (by kernel_rfl) (fun K hK => ?_) (fun K hK => ?_)
      · have HKK := Lib.hid hK
        clear hK
        go_wp2
        obtain ⟨wa, ga, hwa, hga⟩ : ∃ wa ga, wa = (wr.alloc (.cells #[.int .i64 0, .int .i64 0, .string ⟨#[]⟩, .slice none 0 0] 25)).drew ∧ ga = wr.heap.size := ⟨_, _, rfl, rfl⟩
        have hza : wa.heap.size = ga + 1 := by rw [hwa, hga]; exact World.size_alloc _ _
        have hG : wa.heap[ga]? = some (.cells #[.int .i64 0, .int .i64 0, .string ⟨#[]⟩, .slice none 0 0] 25 (0, 0)) := by rw [hwa, hga]; exact heap_alloc_new _ _
        have hS : Below wr.heap.size wr wa := by rw [hwa]; exact below_drew1 (below_new _ _)
        rw [← hwa, ← hga]
        refine HKK.out _ _ (fun _ _ => hS) ?_
        refine wpK_one 11 rfl (by kernel_rfl) (fun K hK => ?_)
        have HKK := Lib.hid hK
        clear hK
        have HGA := Lib.hid hG
        have HS := Lib.hid hS
        have HZA := Lib.hid hza
        have HGE : Hid (wr.heap.size ≤ ga) := Lib.hid (by omega)
        clear hG hS hza hwa hga
        go_wp2
        obtain ⟨wb, gb, hwb, hgb⟩ : ∃ wb gb, wb = wa.alloc (.cells #[.int .i64 0, .int .i64 0, .string ⟨#[]⟩, .slice none 0 0] 25) ∧ gb = wa.heap.size := ⟨_, _, rfl, rfl⟩
        have hGB : wb.heap[gb]? = some (.cells #[.int .i64 0, .int .i64 0, .string ⟨#[]⟩, .slice none 0 0] 25 (0, 0)) := by rw [hwb, hgb]; exact heap_alloc_new _ _
        have hGA : wb.heap[ga]? = some (.cells #[.int .i64 0, .int .i64 0, .string ⟨#[]⟩, .slice none 0 0] 25 (0, 0)) := by rw [hwb]; exact (Below.heap_alloc _ _ _ (by have := HZA.out; omega)).trans HGA.out
        have hS : Below wr.heap.size wr wb := by rw [hwb]; exact HS.out.alloc HS.out.size _
        have hne : ga ≠ gb := by have := HZA.out; omega
        have hge : wr.heap.size ≤ gb := by rw [hgb]; exact HS.out.size
        rw [← hwb, ← hgb]
        clear hwb hgb
        refine HKK.out _ _ (fun _ _ => hS) ?_
        refine wpK_one 12 rfl (by kernel_rfl) (fun K hK => ?_)
        have HKK := Lib.hid hK
        clear hK
        refine wpList_store_row rfl 25 (.tmp 8) (.tmp 30) rfl _ _ rfl rfl 25 #[.int .i64 0, .int .i64 0, .string ⟨#[]⟩, .slice none 0 0] hGA (tySizeA _ _ _ _) rfl (one4 _ _ _ _ _ _) ?_
        refine wpList_nil ?_
        have hS2 := below_put hS (show wr.heap.size ≤ ga from HGE.out) #[.int .i64 kx, .int .i64 nx, .string sx, .slice A3 lx.length c3]
        have h8 := setRow_row (cs := #[.int .i64 kx, .int .i64 nx, .string sx, .slice A3 lx.length c3]) hGA
        have h9 := (setRow_old (w := wb) (g := ga) (k := gb) (cs := #[.int .i64 kx, .int .i64 nx, .string sx, .slice A3 lx.length c3]) (by omega)).trans hGB
        refine HKK.out _ _ (fun _ _ => hS2) ?_
        refine wpK_one 13 rfl (by kernel_rfl) (fun K hK => ?_)
        have HKK := Lib.hid hK
        clear hK
        refine wpList_store_row rfl 25 (.tmp 9) (.tmp 35) rfl _ _ rfl rfl 25 #[.int .i64 0, .int .i64 0, .string ⟨#[]⟩, .slice none 0 0] h9 (tySizeA _ _ _ _) rfl (one4 _ _ _ _ _ _) ?_
        refine wpList_nil ?_
        have hS3 := below_put hS2 (show wr.heap.size ≤ gb from hge) #[.int .i64 ky, .int .i64 ny, .string sy, .slice A4 ly.length c4]
        have h9' := setRow_row (cs := #[.int .i64 ky, .int .i64 ny, .string sy, .slice A4 ly.length c4]) h9
        have h8' := (setRow_old (w := wb.setRow ga #[.int .i64 kx, .int .i64 nx, .string sx, .slice A3 lx.length c3]) (g := gb) (k := ga) (cs := #[.int .i64 ky, .int .i64 ny, .string sy, .slice A4 ly.length c4]) (by omega)).trans h8
        refine HKK.out _ _ (fun _ _ => hS3) ?_
        refine wpK_end (by kernel_rfl) ?_ _
        go_wp2
        go_meet
        exact ⟨ga, gb, rfl, rfl, h8', h9', hS3⟩
      · have HKK := Lib.hid hK
        clear hK
        go_wp2
        obtain ⟨wa, ga, hwa, hga⟩ : ∃ wa ga, wa = (wr.alloc (.cells #[.int .i64 0, .int .i64 0, .string ⟨#[]⟩, .slice none 0 0] 25)).drew ∧ ga = wr.heap.size := ⟨_, _, rfl, rfl⟩
        have hza : wa.heap.size = ga + 1 := by rw [hwa, hga]; exact World.size_alloc _ _
        have hG : wa.heap[ga]? = some (.cells #[.int .i64 0, .int .i64 0, .string ⟨#[]⟩, .slice none 0 0] 25 (0, 0)) := by rw [hwa, hga]; exact heap_alloc_new _ _
        have hS : Below wr.heap.size wr wa := by rw [hwa]; exact below_drew1 (below_new _ _)
        rw [← hwa, ← hga]
        refine HKK.out _ _ (fun _ _ => hS) ?_
        refine wpK_one 10 rfl (by kernel_rfl) (fun K hK => ?_)
        have HKK := Lib.hid hK
        clear hK
        have HGA := Lib.hid hG
        have HS := Lib.hid hS
        have HZA := Lib.hid hza
        have HGE : Hid (wr.heap.size ≤ ga) := Lib.hid (by omega)
        clear hG hS hza hwa hga
        go_wp2
        obtain ⟨wb, gb, hwb, hgb⟩ : ∃ wb gb, wb = wa.alloc (.cells #[.int .i64 0, .int .i64 0, .string ⟨#[]⟩, .slice none 0 0] 25) ∧ gb = wa.heap.size := ⟨_, _, rfl, rfl⟩
        have hGB : wb.heap[gb]? = some (.cells #[.int .i64 0, .int .i64 0, .string ⟨#[]⟩, .slice none 0 0] 25 (0, 0)) := by rw [hwb, hgb]; exact heap_alloc_new _ _
        have hGA : wb.heap[ga]? = some (.cells #[.int .i64 0, .int .i64 0, .string ⟨#[]⟩, .slice none 0 0] 25 (0, 0)) := by rw [hwb]; exact (Below.heap_alloc _ _ _ (by have := HZA.out; omega)).trans HGA.out
        have hS : Below wr.heap.size wr wb := by rw [hwb]; exact HS.out.alloc HS.out.size _
        have hne : ga ≠ gb := by have := HZA.out; omega
        have hge : wr.heap.size ≤ gb := by rw [hgb]; exact HS.out.size
        rw [← hwb, ← hgb]
        clear hwb hgb
        refine HKK.out _ _ (fun _ _ => hS) ?_
        refine wpK_one 12 rfl (by kernel_rfl) (fun K hK => ?_)
        have HKK := Lib.hid hK
        clear hK
        refine wpList_store_row rfl 25 (.tmp 8) (.tmp 30) rfl _ _ rfl rfl 25 #[.int .i64 0, .int .i64 0, .string ⟨#[]⟩, .slice none 0 0] hGB (tySizeA _ _ _ _) rfl (one4 _ _ _ _ _ _) ?_
        refine wpList_nil ?_
        have hS2 := below_put hS (show wr.heap.size ≤ gb from hge) #[.int .i64 kx, .int .i64 nx, .string sx, .slice A3 lx.length c3]
        have h8 := setRow_row (cs := #[.int .i64 kx, .int .i64 nx, .string sx, .slice A3 lx.length c3]) hGB
        have h9 := (setRow_old (w := wb) (g := gb) (k := ga) (cs := #[.int .i64 kx, .int .i64 nx, .string sx, .slice A3 lx.length c3]) (by omega)).trans hGA
        refine HKK.out _ _ (fun _ _ => hS2) ?_
        refine wpK_one 13 rfl (by kernel_rfl) (fun K hK => ?_)
        have HKK := Lib.hid hK
        clear hK
        refine wpList_store_row rfl 25 (.tmp 9) (.tmp 35) rfl _ _ rfl rfl 25 #[.int .i64 0, .int .i64 0, .string ⟨#[]⟩, .slice none 0 0] h9 (tySizeA _ _ _ _) rfl (one4 _ _ _ _ _ _) ?_
        refine wpList_nil ?_
        have hS3 := below_put hS2 (show wr.heap.size ≤ ga from HGE.out) #[.int .i64 ky, .int .i64 ny, .string sy, .slice A4 ly.length c4]
        have h9' := setRow_row (cs := #[.int .i64 ky, .int .i64 ny, .string sy, .slice A4 ly.length c4]) h9
        have h8' := (setRow_old (w := wb.setRow gb #[.int .i64 kx, .int .i64 nx, .string sx, .slice A3 lx.length c3]) (g := ga) (k := gb) (cs := #[.int .i64 ky, .int .i64 ny, .string sy, .slice A4 ly.length c4]) (by omega)).trans h8
        refine HKK.out _ _ (fun _ _ => hS3) ?_
        refine wpK_end (by kernel_rfl) ?_ _
        go_wp2
        go_meet
        exact ⟨gb, ga, rfl, rfl, h8', h9', hS3⟩
    case rest =>
      obtain ⟨g1, g2, rfl, rfl, hg1, hg2, hbp⟩ := hcut
      have HP2 := Lib.hid hbp
      obtain ⟨wo, rfl⟩ : ∃ wo : World, wo = wr := ⟨_, rfl⟩
      have hl1 := lt_of_cells hg1
      have hl2 := lt_of_cells hg2
      obtain ⟨x0, x1, x2, x3⟩ := box_cells hg1
      obtain ⟨y0, y1, y2, y3⟩ := box_cells hg2
      have HX := Lib.hid (nrows_on HX.out hbp)
      have HY := Lib.hid (nrows_on HY.out hbp)
      obtain ⟨wx, rfl⟩ : ∃ wx : World, wx = wc := ⟨_, rfl⟩
      have HCL : Hid (∀ W', Below wx.heap.size wx W' → W'.cell? ⟨g1, 0, none⟩ = some (.int .i64 kx) ∧ W'.cell? ⟨g1, 1, none⟩ = some (.int .i64 nx) ∧ W'.cell? ⟨g2, 1, none⟩ = some (.int .i64 ny)) := Lib.hid fun W' h => ⟨(h.cell (p := ⟨g1, 0, none⟩) hl1).trans x0, (h.cell (p := ⟨g1, 1, none⟩) hl1).trans x1, (h.cell (p := ⟨g2, 1, none⟩) hl2).trans y1⟩
      clear hg1 hg2 hbp HRR hl1 hl2
      have HNN : Hid (¬ nodeLike P Q j → ¬ Alike P Q) := Lib.hid not_node
      by_cases h1 : kx = ky
      case neg =>
        have q1 : (kx != ky) = true := by simpa using h1
        have HF := Lib.hid (HNN.out fun h => h1 (HNL.out.2 h).1)
        clear h1
        go_wp2
        go_ret
        exact ⟨false, rfl, no_iff (HF.out), below_then HB.out (below_then HBR.out HP2.out)⟩
      by_cases h2 : sx = sy
      case neg =>
        have q1 : (kx != ky) = false := by simpa using h1
        have q2 : (sx.toList == sy.toList) = false := by rw [beq_eq_false_iff_ne]; intro e; exact h2 ((bytes_eq _ _).1 e)
        have HF := Lib.hid (HNN.out fun h => h2 (HNL.out.2 h).2.1)
        clear h1 h2
        go_wp2
        go_ret
        exact ⟨false, rfl, no_iff (HF.out), below_then HB.out (below_then HBR.out HP2.out)⟩
      by_cases h3 : lx.length = ly.length
      case neg =>
        have q1 : (kx != ky) = false := by simpa using h1
        have q2 : (sx.toList == sy.toList) = true := by rw [h2]; simp
        have q3 : ((lx.length : Int) != ly.length) = true := by simpa using fun e : (lx.length : Int) = ly.length => h3 (by omega)
        have HF := Lib.hid (HNN.out fun h => h3 (HNL.out.2 h).2.2.1)
        clear h1 h2 h3
        go_wp2
        go_ret
        exact ⟨false, rfl, no_iff (HF.out), below_then HB.out (below_then HBR.out HP2.out)⟩
      have q1 : (kx != ky) = false := by simpa using h1
      have q2 : (sx.toList == sy.toList) = true := by rw [h2]; simp
      have q3 : ((lx.length : Int) != ly.length) = false := by simpa using (by omega : (lx.length : Int) = ly.length)
      have HH := Lib.hid (And.intro h1 (And.intro h2 h3))
      clear h1 h2 h3
      have hcase : kx = 1 ∨ (kx ≠ 1 ∧ nx = ny) ∨ (kx ≠ 1 ∧ nx ≠ ny) := by omega
      rcases hcase with h4 | ⟨h4, h5⟩ | ⟨h4, h5⟩
      case inr.inr =>
        have q4 : (kx != 1) = true := by simpa using h4
        have q5 : (nx != ny) = true := by simpa using h5
        have HF := Lib.hid (HNN.out fun h => h5 ((HNL.out.2 h).2.2.2 h4))
        clear h4 h5
        go_wp2
        go_ret
        exact ⟨false, rfl, no_iff (HF.out), below_then HB.out (below_then HBR.out HP2.out)⟩

      case inl =>
        have q4 : (kx != 1) = false := by simpa using h4
        have q6 : (kx == 1) = true := by simpa using h4
        have HOK := Lib.hid (HNL.out.1 ⟨HH.out.1, HH.out.2.1, HH.out.2.2, fun e => absurd h4 e⟩)
        have HK4 := Lib.hid h4
        have HNEXT : Hid ((∀ i, i < j → varLike P Q j i) → ∀ i, i < j + 1 → nodeLike P Q i ∧ ∀ m, m < i → varLike P Q i m) := Lib.hid fun h i hi => (by by_cases e : i = j; (· subst e; exact ⟨HOK.out, h⟩); (· exact HALL.out i (by omega)))
        clear h4 
        go_wp2
        go_loopw [10] (fun z wr => ∃ m : Nat, m ≤ j ∧ z = .int .i64 m ∧ (∀ i, i < m → varLike P Q j i) ∧ Below wx.heap.size wx wr) (fun z _ => j - (intOf z).toNat)
        case atStart => exact ⟨0, Nat.zero_le _, rfl, fun i h => absurd h (Nat.not_lt_zero _), Below.refl _ _⟩
        case round =>
          obtain ⟨m, hm, rfl, hv, hbi⟩ := hrel
          obtain ⟨z0, z1, z2⟩ := HCL.out wr hbi
          have HBI := Lib.hid hbi
          have HV := Lib.hid hv
          clear hv hbi
          by_cases hmj : m < j
          case neg =>
            obtain rfl : m = j := by omega
            go_wp2
            go_roundw
            case rel => exact ⟨m + 1, by omega, by go_num, HNEXT.out (HV.out), below_then HBR.out (below_then HP2.out HBI.out)⟩
            case measure => simp [intOf]; omega
          have hmN : m < N := by omega
          have hmP : m < P.length := by omega
          have hmQ : m < Q.length := by omega
          obtain ⟨_, _, cs5, e5, hSb5, hr5, hd5⟩ := HX.out.at_ hmP
          cases e5
          obtain ⟨_, _, cs6, e6, hSb6, hr6, hd6⟩ := HY.out.at_ hmQ
          cases e6
          obtain ⟨A5, c5, hr5, hd5⟩ := nd_part hr5 hd5
          obtain ⟨A6, c6, hr6, hd6⟩ := nd_part hr6 hd6
          have HVM := Lib.hid (HVL.out m hmP hmQ)
          generalize P[m] = xm at *
          generalize Q[m] = ym at *
          obtain ⟨k5, n5, s5, l5⟩ := xm
          obtain ⟨k6, n6, s6, l6⟩ := ym
          simp only [Tt.kind, Tt.num, Tt.name, Tt.args] at hr5 hr6 HVM
          have HCC : Hid (∀ W', Below wr.heap.size wr W' → W'.cell? ⟨b, o + m * 47 + 22, none⟩ = some (.int .i64 k5) ∧ W'.cell? ⟨b, o + m * 47 + 22 + 1, none⟩ = some (.int .i64 n5) ∧ W'.cell? ⟨b2, o2 + m * 47 + 22 + 1, none⟩ = some (.int .i64 n6) ∧ W'.cell? ⟨g1, 1, none⟩ = some (.int .i64 nx) ∧ W'.cell? ⟨g2, 1, none⟩ = some (.int .i64 ny)) := Lib.hid fun W' h => (by have h' := below_then HBI.out h; have hh := HCL.out W' h'; exact ⟨range_keep hr5 h' hSb5 0 _ rfl, range_keep hr5 h' hSb5 1 _ rfl, range_keep hr6 h' hSb6 1 _ rfl, hh.2.1, hh.2.2⟩)
          clear hr5 hd5 hr6 hd6 hSb5 hSb6
          have HNX : Hid ((k5 = 1 → (n5 = nx ↔ n6 = ny)) → ∀ i, i < m + 1 → varLike P Q j i) := Lib.hid fun h i hi => (by by_cases e : i = m; (· subst e; exact HVM.out.1 fun _ => h); (· exact HV.out i (by omega)))
          have HNO : Hid (¬ (k5 = 1 → (n5 = nx ↔ n6 = ny)) → ¬ Alike P Q) := Lib.hid fun h => not_var hmj fun e => h (HVM.out.2 e HK4.out)
          by_cases h5 : k5 = 1
          case neg =>
            have q5 : (k5 == 1) = false := by simpa using h5
            have HF := Lib.hid (HNX.out fun e => absurd e h5)
            clear h5
            go_upto_region 13 with fail
            refine wp_region_K (fun w' => Below wr.heap.size wr w') (fun j => true) (by kernel_rfl) ?_
            refine wpK_take0 (v := ?_) (a' := ?_) 0 rfl (by kernel_rfl) (by kernel_rfl) (by kernel_rfl) (by kernel_rfl) (fun _ _ _ h => h) ?_ ?_ ?_
            rotate_left 2
            · refine .inl ⟨by kernel_rfl, ?_⟩; intro wS hS; clear hS; go_simp; with_reducible rfl
            · go_simp; with_reducible rfl
            refine wpK_take0 (v := ?_) (a' := ?_) 1 rfl (by kernel_rfl) (by kernel_rfl) (by kernel_rfl) (by kernel_rfl) (fun _ _ _ h => h) ?_ ?_ ?_
            rotate_left 2
            · refine .inl ⟨by kernel_rfl, ?_⟩; intro wS hS; clear hS; go_simp; with_reducible rfl
            · go_simp; with_reducible rfl
            refine wpK_take0 (v := ?_) (a' := ?_) 2 rfl (by kernel_rfl) (by kernel_rfl) (by kernel_rfl) (by kernel_rfl) (fun _ _ _ h => h) ?_ ?_ ?_
            rotate_left 2
            · refine .inl ⟨by kernel_rfl, ?_⟩; intro wS hS; clear hS; go_simp; with_reducible rfl
            · go_simp; with_reducible rfl
            refine wpK_take0 (v := ?_) (a' := ?_) 3 rfl (by kernel_rfl) (by kernel_rfl) (by kernel_rfl) (by kernel_rfl) (fun _ _ _ h => h) ?_ ?_ ?_
            rotate_left 2
            · refine .inl ⟨by kernel_rfl, ?_⟩; intro wS hS; clear hS; go_simp; with_reducible rfl
            · go_simp; with_reducible rfl
            refine wpK_take0 (v := ?_) (a' := ?_) 4 rfl (by kernel_rfl) (by kernel_rfl) (by kernel_rfl) (by kernel_rfl) (fun _ _ _ h => h) ?_ ?_ ?_
            rotate_left 2
            · refine .inl ⟨by kernel_rfl, ?_⟩; intro wS hS; clear hS; go_simp; with_reducible rfl
            · go_simp; with_reducible rfl
            refine wpK_take (v := ?_) (a' := ?_) 5 rfl (by kernel_rfl) (by kernel_rfl) (by kernel_rfl) (by kernel_rfl) (by kernel_rfl) (fun _ _ _ h => h) (below_drew1 (Below.refl _ _)) ?_ ?_ ?_
            rotate_left 2
            · refine .inl ⟨by kernel_rfl, ?_⟩; intro wS hS; obtain ⟨c1, c2, c3, c4, c5⟩ := HCC.out _ hS; go_simp; with_reducible rfl
            · go_simp; with_reducible rfl
            refine wpK_take0 (v := ?_) (a' := ?_) 6 rfl (by kernel_rfl) (by kernel_rfl) (by kernel_rfl) (by kernel_rfl) (fun _ _ _ h => h) ?_ ?_ ?_
            rotate_left 2
            · refine .inl ⟨by kernel_rfl, ?_⟩; intro wS hS; clear hS; go_simp; with_reducible rfl
            · go_simp; with_reducible rfl
            refine wpK_take0 (v := ?_) (a' := ?_) 7 rfl (by kernel_rfl) (by kernel_rfl) (by kernel_rfl) (by kernel_rfl) (fun _ _ _ h => h) ?_ ?_ ?_
            rotate_left 2
            · refine .inl ⟨by kernel_rfl, ?_⟩; intro wS hS; clear hS; go_simp; with_reducible rfl
            · go_simp; with_reducible rfl
            refine wpK_take0 (v := undef) (a' := ?_) 8 rfl (by kernel_rfl) (by kernel_rfl) (by kernel_rfl) (by kernel_rfl) (fun _ _ _ h => h) ?_ ?_ ?_
            rotate_left 1
            · exact .inr ⟨by kernel_rfl, rfl⟩
            · go_simp; with_reducible rfl
            refine wpK_take0 (v := undef) (a' := ?_) 9 rfl (by kernel_rfl) (by kernel_rfl) (by kernel_rfl) (by kernel_rfl) (fun _ _ _ h => h) ?_ ?_ ?_
            rotate_left 1
            · exact .inr ⟨by kernel_rfl, rfl⟩
            · go_simp; with_reducible rfl
            refine wpK_take0 (v := undef) (a' := ?_) 10 rfl (by kernel_rfl) (by kernel_rfl) (by kernel_rfl) (by kernel_rfl) (fun _ _ _ h => h) ?_ ?_ ?_
            rotate_left 1
            · exact .inr ⟨by kernel_rfl, rfl⟩
            · go_simp; with_reducible rfl
            refine wpK_take0 (v := undef) (a' := ?_) 11 rfl (by kernel_rfl) (by kernel_rfl) (by kernel_rfl) (by kernel_rfl) (fun _ _ _ h => h) ?_ ?_ ?_
            rotate_left 1
            · exact .inr ⟨by kernel_rfl, rfl⟩
            · go_simp; with_reducible rfl
            refine wpK_take0 (v := undef) (a' := ?_) 12 rfl (by kernel_rfl) (by kernel_rfl) (by kernel_rfl) (by kernel_rfl) (fun _ _ _ h => h) ?_ ?_ ?_
            rotate_left 1
            · exact .inr ⟨by kernel_rfl, rfl⟩
            · go_simp; with_reducible rfl
            refine wpK_take0 (v := undef) (a' := ?_) 13 rfl (by kernel_rfl) (by kernel_rfl) (by kernel_rfl) (by kernel_rfl) (fun _ _ _ h => h) ?_ ?_ ?_
            rotate_left 1
            · exact .inr ⟨by kernel_rfl, rfl⟩
            · go_simp; with_reducible rfl
            refine wpK_take0 (v := undef) (a' := ?_) 14 rfl (by kernel_rfl) (by kernel_rfl) (by kernel_rfl) (by kernel_rfl) (fun _ _ _ h => h) ?_ ?_ ?_
            rotate_left 1
            · exact .inr ⟨by kernel_rfl, rfl⟩
            · go_simp; with_reducible rfl
            refine wpK_take0 (v := undef) (a' := ?_) 15 rfl (by kernel_rfl) (by kernel_rfl) (by kernel_rfl) (by kernel_rfl) (fun _ _ _ h => h) ?_ ?_ ?_
            rotate_left 1
            · exact .inr ⟨by kernel_rfl, rfl⟩
            · go_simp; with_reducible rfl
            refine wpK_take0 (v := undef) (a' := ?_) 16 rfl (by kernel_rfl) (by kernel_rfl) (by kernel_rfl) (by kernel_rfl) (fun _ _ _ h => h) ?_ ?_ ?_
            rotate_left 1
            · exact .inr ⟨by kernel_rfl, rfl⟩
            · go_simp; with_reducible rfl
            refine wpK_take0 (v := undef) (a' := ?_) 17 rfl (by kernel_rfl) (by kernel_rfl) (by kernel_rfl) (by kernel_rfl) (fun _ _ _ h => h) ?_ ?_ ?_
            rotate_left 1
            · exact .inr ⟨by kernel_rfl, rfl⟩
            · go_simp; with_reducible rfl
            refine wpK_take0 (v := undef) (a' := ?_) 18 rfl (by kernel_rfl) (by kernel_rfl) (by kernel_rfl) (by kernel_rfl) (fun _ _ _ h => h) ?_ ?_ ?_
            rotate_left 1
            · exact .inr ⟨by kernel_rfl, rfl⟩
            · go_simp; with_reducible rfl
            refine wpK_take0 (v := undef) (a' := ?_) 19 rfl (by kernel_rfl) (by kernel_rfl) (by kernel_rfl) (by kernel_rfl) (fun _ _ _ h => h) ?_ ?_ ?_
            rotate_left 1
            · exact .inr ⟨by kernel_rfl, rfl⟩
            · go_simp; with_reducible rfl
            refine wpK_take0 (v := undef) (a' := ?_) 20 rfl (by kernel_rfl) (by kernel_rfl) (by kernel_rfl) (by kernel_rfl) (fun _ _ _ h => h) ?_ ?_ ?_
            rotate_left 1
            · exact .inr ⟨by kernel_rfl, rfl⟩
            · go_simp; with_reducible rfl
            refine wpK_take0 (v := undef) (a' := ?_) 21 rfl (by kernel_rfl) (by kernel_rfl) (by kernel_rfl) (by kernel_rfl) (fun _ _ _ h => h) ?_ ?_ ?_
            rotate_left 1
            · exact .inr ⟨by kernel_rfl, rfl⟩
            · go_simp; with_reducible rfl
            refine wpK_take0 (v := undef) (a' := ?_) 22 rfl (by kernel_rfl) (by kernel_rfl) (by kernel_rfl) (by kernel_rfl) (fun _ _ _ h => h) ?_ ?_ ?_
            rotate_left 1
            · exact .inr ⟨by kernel_rfl, rfl⟩
            · go_simp; with_reducible rfl
            refine wpK_take0 (v := undef) (a' := ?_) 23 rfl (by kernel_rfl) (by kernel_rfl) (by kernel_rfl) (by kernel_rfl) (fun _ _ _ h => h) ?_ ?_ ?_
            rotate_left 1
            · exact .inr ⟨by kernel_rfl, rfl⟩
            · go_simp; with_reducible rfl
            refine wpK_take0 (v := undef) (a' := ?_) 24 rfl (by kernel_rfl) (by kernel_rfl) (by kernel_rfl) (by kernel_rfl) (fun _ _ _ h => h) ?_ ?_ ?_
            rotate_left 1
            · exact .inr ⟨by kernel_rfl, rfl⟩
            · go_simp; with_reducible rfl
            refine wpK_take0 (v := undef) (a' := ?_) 25 rfl (by kernel_rfl) (by kernel_rfl) (by kernel_rfl) (by kernel_rfl) (fun _ _ _ h => h) ?_ ?_ ?_
            rotate_left 1
            · exact .inr ⟨by kernel_rfl, rfl⟩
            · go_simp; with_reducible rfl
            refine wpK_take0 (v := undef) (a' := ?_) 26 rfl (by kernel_rfl) (by kernel_rfl) (by kernel_rfl) (by kernel_rfl) (fun _ _ _ h => h) ?_ ?_ ?_
            rotate_left 1
            · exact .inr ⟨by kernel_rfl, rfl⟩
            · go_simp; with_reducible rfl
            refine wpK_take0 (v := ?_) (a' := ?_) 27 rfl (by kernel_rfl) (by kernel_rfl) (by kernel_rfl) (by kernel_rfl) (fun _ _ _ h => h) ?_ ?_ ?_
            rotate_left 2
            · refine .inl ⟨by kernel_rfl, ?_⟩; intro wS hS; clear hS; go_simp; with_reducible rfl
            · go_simp; with_reducible rfl
            refine wpK_end (by kernel_rfl) ?_ _
            go_wp2
            go_roundw
            case rel => exact ⟨m + 1, by omega, by go_num, HF.out, HBI.out.drew⟩
            case measure => simp [intOf]; omega
          have q5 : (k5 == 1) = true := by simpa using h5
          have H5 := Lib.hid h5
          clear h5
          by_cases h6 : n5 = nx <;> by_cases h7 : n6 = ny
          rotate_left 0
          · have q6 : (n5 == nx) = true := by simpa using h6
            have q7 : (n6 == ny) = true := by simpa using h7
            have HF := Lib.hid (HNX.out fun _ => (by simp [h6, h7]))
            clear h6 h7
            go_upto_region 13 with fail
            refine wp_region_K (fun w' => Below wr.heap.size wr w') (fun j => true) (by kernel_rfl) ?_
            refine wpK_take0 (v := ?_) (a' := ?_) 0 rfl (by kernel_rfl) (by kernel_rfl) (by kernel_rfl) (by kernel_rfl) (fun _ _ _ h => h) ?_ ?_ ?_
            rotate_left 2
            · refine .inl ⟨by kernel_rfl, ?_⟩; intro wS hS; clear hS; go_simp; with_reducible rfl
            · go_simp; with_reducible rfl
            refine wpK_take0 (v := ?_) (a' := ?_) 1 rfl (by kernel_rfl) (by kernel_rfl) (by kernel_rfl) (by kernel_rfl) (fun _ _ _ h => h) ?_ ?_ ?_
            rotate_left 2
            · refine .inl ⟨by kernel_rfl, ?_⟩; intro wS hS; clear hS; go_simp; with_reducible rfl
            · go_simp; with_reducible rfl
            refine wpK_take0 (v := ?_) (a' := ?_) 2 rfl (by kernel_rfl) (by kernel_rfl) (by kernel_rfl) (by kernel_rfl) (fun _ _ _ h => h) ?_ ?_ ?_
            rotate_left 2
            · refine .inl ⟨by kernel_rfl, ?_⟩; intro wS hS; clear hS; go_simp; with_reducible rfl
            · go_simp; with_reducible rfl
            refine wpK_take0 (v := ?_) (a' := ?_) 3 rfl (by kernel_rfl) (by kernel_rfl) (by kernel_rfl) (by kernel_rfl) (fun _ _ _ h => h) ?_ ?_ ?_
            rotate_left 2
            · refine .inl ⟨by kernel_rfl, ?_⟩; intro wS hS; clear hS; go_simp; with_reducible rfl
            · go_simp; with_reducible rfl
            refine wpK_take0 (v := ?_) (a' := ?_) 4 rfl (by kernel_rfl) (by kernel_rfl) (by kernel_rfl) (by kernel_rfl) (fun _ _ _ h => h) ?_ ?_ ?_
            rotate_left 2
            · refine .inl ⟨by kernel_rfl, ?_⟩; intro wS hS; clear hS; go_simp; with_reducible rfl
            · go_simp; with_reducible rfl
            refine wpK_take (v := ?_) (a' := ?_) 5 rfl (by kernel_rfl) (by kernel_rfl) (by kernel_rfl) (by kernel_rfl) (by kernel_rfl) (fun _ _ _ h => h) (below_drew1 (Below.refl _ _)) ?_ ?_ ?_
            rotate_left 2
            · refine .inl ⟨by kernel_rfl, ?_⟩; intro wS hS; obtain ⟨c1, c2, c3, c4, c5⟩ := HCC.out _ hS; go_simp; with_reducible rfl
            · go_simp; with_reducible rfl
            refine wpK_take0 (v := ?_) (a' := ?_) 6 rfl (by kernel_rfl) (by kernel_rfl) (by kernel_rfl) (by kernel_rfl) (fun _ _ _ h => h) ?_ ?_ ?_
            rotate_left 2
            · refine .inl ⟨by kernel_rfl, ?_⟩; intro wS hS; clear hS; go_simp; with_reducible rfl
            · go_simp; with_reducible rfl
            refine wpK_take0 (v := ?_) (a' := ?_) 7 rfl (by kernel_rfl) (by kernel_rfl) (by kernel_rfl) (by kernel_rfl) (fun _ _ _ h => h) ?_ ?_ ?_
            rotate_left 2
            · refine .inl ⟨by kernel_rfl, ?_⟩; intro wS hS; clear hS; go_simp; with_reducible rfl
            · go_simp; with_reducible rfl
            refine wpK_take0 (v := ?_) (a' := ?_) 8 rfl (by kernel_rfl) (by kernel_rfl) (by kernel_rfl) (by kernel_rfl) (fun _ _ _ h => h) ?_ ?_ ?_
            rotate_left 2
            · refine .inl ⟨by kernel_rfl, ?_⟩; intro wS hS; clear hS; go_simp; with_reducible rfl
            · go_simp; with_reducible rfl
            refine wpK_take0 (v := ?_) (a' := ?_) 9 rfl (by kernel_rfl) (by kernel_rfl) (by kernel_rfl) (by kernel_rfl) (fun _ _ _ h => h) ?_ ?_ ?_
            rotate_left 2
            · refine .inl ⟨by kernel_rfl, ?_⟩; intro wS hS; clear hS; go_simp; with_reducible rfl
            · go_simp; with_reducible rfl
            refine wpK_take0 (v := ?_) (a' := ?_) 10 rfl (by kernel_rfl) (by kernel_rfl) (by kernel_rfl) (by kernel_rfl) (fun _ _ _ h => h) ?_ ?_ ?_
            rotate_left 2
            · refine .inl ⟨by kernel_rfl, ?_⟩; intro wS hS; clear hS; go_simp; with_reducible rfl
            · go_simp; with_reducible rfl
            refine wpK_take0 (v := ?_) (a' := ?_) 11 rfl (by kernel_rfl) (by kernel_rfl) (by kernel_rfl) (by kernel_rfl) (fun _ _ _ h => h) ?_ ?_ ?_
            rotate_left 2
            · refine .inl ⟨by kernel_rfl, ?_⟩; intro wS hS; clear hS; go_simp; with_reducible rfl
            · go_simp; with_reducible rfl
            refine wpK_take0 (v := ?_) (a' := ?_) 12 rfl (by kernel_rfl) (by kernel_rfl) (by kernel_rfl) (by kernel_rfl) (fun _ _ _ h => h) ?_ ?_ ?_
            rotate_left 2
            · refine .inl ⟨by kernel_rfl, ?_⟩; intro wS hS; clear hS; go_simp; with_reducible rfl
            · go_simp; with_reducible rfl
            refine wpK_take (v := ?_) (a' := ?_) 13 rfl (by kernel_rfl) (by kernel_rfl) (by kernel_rfl) (by kernel_rfl) (by kernel_rfl) (fun _ _ _ h => h) (below_drew1 (Below.refl _ _)) ?_ ?_ ?_
            rotate_left 2
            · refine .inl ⟨by kernel_rfl, ?_⟩; intro wS hS; obtain ⟨c1, c2, c3, c4, c5⟩ := HCC.out _ hS; go_simp; with_reducible rfl
            · go_simp; with_reducible rfl
            refine wpK_take0 (v := ?_) (a' := ?_) 14 rfl (by kernel_rfl) (by kernel_rfl) (by kernel_rfl) (by kernel_rfl) (fun _ _ _ h => h) ?_ ?_ ?_
            rotate_left 2
            · refine .inl ⟨by kernel_rfl, ?_⟩; intro wS hS; clear hS; go_simp; with_reducible rfl
            · go_simp; with_reducible rfl
            refine wpK_take (v := ?_) (a' := ?_) 15 rfl (by kernel_rfl) (by kernel_rfl) (by kernel_rfl) (by kernel_rfl) (by kernel_rfl) (fun _ _ _ h => h) (below_drew1 (Below.refl _ _)) ?_ ?_ ?_
            rotate_left 2
            · refine .inl ⟨by kernel_rfl, ?_⟩; intro wS hS; obtain ⟨c1, c2, c3, c4, c5⟩ := HCC.out _ hS; go_simp; with_reducible rfl
            · go_simp; with_reducible rfl
            refine wpK_take0 (v := ?_) (a' := ?_) 16 rfl (by kernel_rfl) (by kernel_rfl) (by kernel_rfl) (by kernel_rfl) (fun _ _ _ h => h) ?_ ?_ ?_
            rotate_left 2
            · refine .inl ⟨by kernel_rfl, ?_⟩; intro wS hS; clear hS; go_simp; with_reducible rfl
            · go_simp; with_reducible rfl
            refine wpK_take0 (v := ?_) (a' := ?_) 17 rfl (by kernel_rfl) (by kernel_rfl) (by kernel_rfl) (by kernel_rfl) (fun _ _ _ h => h) ?_ ?_ ?_
            rotate_left 2
            · refine .inl ⟨by kernel_rfl, ?_⟩; intro wS hS; clear hS; go_simp; with_reducible rfl
            · go_simp; with_reducible rfl
            refine wpK_take0 (v := ?_) (a' := ?_) 18 rfl (by kernel_rfl) (by kernel_rfl) (by kernel_rfl) (by kernel_rfl) (fun _ _ _ h => h) ?_ ?_ ?_
            rotate_left 2
            · refine .inl ⟨by kernel_rfl, ?_⟩; intro wS hS; clear hS; go_simp; with_reducible rfl
            · go_simp; with_reducible rfl
            refine wpK_take0 (v := ?_) (a' := ?_) 19 rfl (by kernel_rfl) (by kernel_rfl) (by kernel_rfl) (by kernel_rfl) (fun _ _ _ h => h) ?_ ?_ ?_
            rotate_left 2
            · refine .inl ⟨by kernel_rfl, ?_⟩; intro wS hS; clear hS; go_simp; with_reducible rfl
            · go_simp; with_reducible rfl
            refine wpK_take0 (v := ?_) (a' := ?_) 20 rfl (by kernel_rfl) (by kernel_rfl) (by kernel_rfl) (by kernel_rfl) (fun _ _ _ h => h) ?_ ?_ ?_
            rotate_left 2
            · refine .inl ⟨by kernel_rfl, ?_⟩; intro wS hS; clear hS; go_simp; with_reducible rfl
            · go_simp; with_reducible rfl
            refine wpK_take0 (v := ?_) (a' := ?_) 21 rfl (by kernel_rfl) (by kernel_rfl) (by kernel_rfl) (by kernel_rfl) (fun _ _ _ h => h) ?_ ?_ ?_
            rotate_left 2
            · refine .inl ⟨by kernel_rfl, ?_⟩; intro wS hS; clear hS; go_simp; with_reducible rfl
            · go_simp; with_reducible rfl
            refine wpK_take (v := ?_) (a' := ?_) 22 rfl (by kernel_rfl) (by kernel_rfl) (by kernel_rfl) (by kernel_rfl) (by kernel_rfl) (fun _ _ _ h => h) (below_drew1 (Below.refl _ _)) ?_ ?_ ?_
            rotate_left 2
            · refine .inl ⟨by kernel_rfl, ?_⟩; intro wS hS; obtain ⟨c1, c2, c3, c4, c5⟩ := HCC.out _ hS; go_simp; with_reducible rfl
            · go_simp; with_reducible rfl
            refine wpK_take0 (v := ?_) (a' := ?_) 23 rfl (by kernel_rfl) (by kernel_rfl) (by kernel_rfl) (by kernel_rfl) (fun _ _ _ h => h) ?_ ?_ ?_
            rotate_left 2
            · refine .inl ⟨by kernel_rfl, ?_⟩; intro wS hS; clear hS; go_simp; with_reducible rfl
            · go_simp; with_reducible rfl
            refine wpK_take (v := ?_) (a' := ?_) 24 rfl (by kernel_rfl) (by kernel_rfl) (by kernel_rfl) (by kernel_rfl) (by kernel_rfl) (fun _ _ _ h => h) (below_drew1 (Below.refl _ _)) ?_ ?_ ?_
            rotate_left 2
            · refine .inl ⟨by kernel_rfl, ?_⟩; intro wS hS; obtain ⟨c1, c2, c3, c4, c5⟩ := HCC.out _ hS; go_simp; with_reducible rfl
            · go_simp; with_reducible rfl
            refine wpK_take0 (v := ?_) (a' := ?_) 25 rfl (by kernel_rfl) (by kernel_rfl) (by kernel_rfl) (by kernel_rfl) (fun _ _ _ h => h) ?_ ?_ ?_
            rotate_left 2
            · refine .inl ⟨by kernel_rfl, ?_⟩; intro wS hS; clear hS; go_simp; with_reducible rfl
            · go_simp; with_reducible rfl
            refine wpK_take0 (v := ?_) (a' := ?_) 26 rfl (by kernel_rfl) (by kernel_rfl) (by kernel_rfl) (by kernel_rfl) (fun _ _ _ h => h) ?_ ?_ ?_
            rotate_left 2
            · refine .inl ⟨by kernel_rfl, ?_⟩; intro wS hS; clear hS; go_simp; with_reducible rfl
            · go_simp; with_reducible rfl
            refine wpK_take0 (v := ?_) (a' := ?_) 27 rfl (by kernel_rfl) (by kernel_rfl) (by kernel_rfl) (by kernel_rfl) (fun _ _ _ h => h) ?_ ?_ ?_
            rotate_left 2
            · refine .inl ⟨by kernel_rfl, ?_⟩; intro wS hS; clear hS; go_simp; with_reducible rfl
            · go_simp; with_reducible rfl
            refine wpK_end (by kernel_rfl) ?_ _
            go_wp2
            go_roundw
            case rel => exact ⟨m + 1, by omega, by go_num, HF.out, HBI.out.drew⟩
            case measure => simp [intOf]; omega
          rotate_left 2
          · have q6 : (n5 == nx) = false := by simpa using h6
            have q7 : (n6 == ny) = false := by simpa using h7
            have HF := Lib.hid (HNX.out fun _ => (by simp [h6, h7]))
            clear h6 h7
            go_upto_region 13 with fail
            refine wp_region_K (fun w' => Below wr.heap.size wr w') (fun j => true) (by kernel_rfl) ?_
            refine wpK_take0 (v := ?_) (a' := ?_) 0 rfl (by kernel_rfl) (by kernel_rfl) (by kernel_rfl) (by kernel_rfl) (fun _ _ _ h => h) ?_ ?_ ?_
            rotate_left 2
            · refine .inl ⟨by kernel_rfl, ?_⟩; intro wS hS; clear hS; go_simp; with_reducible rfl
            · go_simp; with_reducible rfl
            refine wpK_take0 (v := ?_) (a' := ?_) 1 rfl (by kernel_rfl) (by kernel_rfl) (by kernel_rfl) (by kernel_rfl) (fun _ _ _ h => h) ?_ ?_ ?_
            rotate_left 2
            · refine .inl ⟨by kernel_rfl, ?_⟩; intro wS hS; clear hS; go_simp; with_reducible rfl
            · go_simp; with_reducible rfl
            refine wpK_take0 (v := ?_) (a' := ?_) 2 rfl (by kernel_rfl) (by kernel_rfl) (by kernel_rfl) (by kernel_rfl) (fun _ _ _ h => h) ?_ ?_ ?_
            rotate_left 2
            · refine .inl ⟨by kernel_rfl, ?_⟩; intro wS hS; clear hS; go_simp; with_reducible rfl
            · go_simp; with_reducible rfl
            refine wpK_take0 (v := ?_) (a' := ?_) 3 rfl (by kernel_rfl) (by kernel_rfl) (by kernel_rfl) (by kernel_rfl) (fun _ _ _ h => h) ?_ ?_ ?_
            rotate_left 2
            · refine .inl ⟨by kernel_rfl, ?_⟩; intro wS hS; clear hS; go_simp; with_reducible rfl
            · go_simp; with_reducible rfl
            refine wpK_take0 (v := ?_) (a' := ?_) 4 rfl (by kernel_rfl) (by kernel_rfl) (by kernel_rfl) (by kernel_rfl) (fun _ _ _ h => h) ?_ ?_ ?_
            rotate_left 2
            · refine .inl ⟨by kernel_rfl, ?_⟩; intro wS hS; clear hS; go_simp; with_reducible rfl
            · go_simp; with_reducible rfl
            refine wpK_take (v := ?_) (a' := ?_) 5 rfl (by kernel_rfl) (by kernel_rfl) (by kernel_rfl) (by kernel_rfl) (by kernel_rfl) (fun _ _ _ h => h) (below_drew1 (Below.refl _ _)) ?_ ?_ ?_
            rotate_left 2
            · refine .inl ⟨by kernel_rfl, ?_⟩; intro wS hS; obtain ⟨c1, c2, c3, c4, c5⟩ := HCC.out _ hS; go_simp; with_reducible rfl
            · go_simp; with_reducible rfl
            refine wpK_take0 (v := ?_) (a' := ?_) 6 rfl (by kernel_rfl) (by kernel_rfl) (by kernel_rfl) (by kernel_rfl) (fun _ _ _ h => h) ?_ ?_ ?_
            rotate_left 2
            · refine .inl ⟨by kernel_rfl, ?_⟩; intro wS hS; clear hS; go_simp; with_reducible rfl
            · go_simp; with_reducible rfl
            refine wpK_take0 (v := ?_) (a' := ?_) 7 rfl (by kernel_rfl) (by kernel_rfl) (by kernel_rfl) (by kernel_rfl) (fun _ _ _ h => h) ?_ ?_ ?_
            rotate_left 2
            · refine .inl ⟨by kernel_rfl, ?_⟩; intro wS hS; clear hS; go_simp; with_reducible rfl
            · go_simp; with_reducible rfl
            refine wpK_take0 (v := ?_) (a' := ?_) 8 rfl (by kernel_rfl) (by kernel_rfl) (by kernel_rfl) (by kernel_rfl) (fun _ _ _ h => h) ?_ ?_ ?_
            rotate_left 2
            · refine .inl ⟨by kernel_rfl, ?_⟩; intro wS hS; clear hS; go_simp; with_reducible rfl
            · go_simp; with_reducible rfl
            refine wpK_take0 (v := ?_) (a' := ?_) 9 rfl (by kernel_rfl) (by kernel_rfl) (by kernel_rfl) (by kernel_rfl) (fun _ _ _ h => h) ?_ ?_ ?_
            rotate_left 2
            · refine .inl ⟨by kernel_rfl, ?_⟩; intro wS hS; clear hS; go_simp; with_reducible rfl
            · go_simp; with_reducible rfl
            refine wpK_take0 (v := ?_) (a' := ?_) 10 rfl (by kernel_rfl) (by kernel_rfl) (by kernel_rfl) (by kernel_rfl) (fun _ _ _ h => h) ?_ ?_ ?_
            rotate_left 2
            · refine .inl ⟨by kernel_rfl, ?_⟩; intro wS hS; clear hS; go_simp; with_reducible rfl
            · go_simp; with_reducible rfl
            refine wpK_take0 (v := ?_) (a' := ?_) 11 rfl (by kernel_rfl) (by kernel_rfl) (by kernel_rfl) (by kernel_rfl) (fun _ _ _ h => h) ?_ ?_ ?_
            rotate_left 2
            · refine .inl ⟨by kernel_rfl, ?_⟩; intro wS hS; clear hS; go_simp; with_reducible rfl
            · go_simp; with_reducible rfl
            refine wpK_take0 (v := ?_) (a' := ?_) 12 rfl (by kernel_rfl) (by kernel_rfl) (by kernel_rfl) (by kernel_rfl) (fun _ _ _ h => h) ?_ ?_ ?_
            rotate_left 2
            · refine .inl ⟨by kernel_rfl, ?_⟩; intro wS hS; clear hS; go_simp; with_reducible rfl
            · go_simp; with_reducible rfl
            refine wpK_take (v := ?_) (a' := ?_) 13 rfl (by kernel_rfl) (by kernel_rfl) (by kernel_rfl) (by kernel_rfl) (by kernel_rfl) (fun _ _ _ h => h) (below_drew1 (Below.refl _ _)) ?_ ?_ ?_
            rotate_left 2
            · refine .inl ⟨by kernel_rfl, ?_⟩; intro wS hS; obtain ⟨c1, c2, c3, c4, c5⟩ := HCC.out _ hS; go_simp; with_reducible rfl
            · go_simp; with_reducible rfl
            refine wpK_take0 (v := ?_) (a' := ?_) 14 rfl (by kernel_rfl) (by kernel_rfl) (by kernel_rfl) (by kernel_rfl) (fun _ _ _ h => h) ?_ ?_ ?_
            rotate_left 2
            · refine .inl ⟨by kernel_rfl, ?_⟩; intro wS hS; clear hS; go_simp; with_reducible rfl
            · go_simp; with_reducible rfl
            refine wpK_take (v := ?_) (a' := ?_) 15 rfl (by kernel_rfl) (by kernel_rfl) (by kernel_rfl) (by kernel_rfl) (by kernel_rfl) (fun _ _ _ h => h) (below_drew1 (Below.refl _ _)) ?_ ?_ ?_
            rotate_left 2
            · refine .inl ⟨by kernel_rfl, ?_⟩; intro wS hS; obtain ⟨c1, c2, c3, c4, c5⟩ := HCC.out _ hS; go_simp; with_reducible rfl
            · go_simp; with_reducible rfl
            refine wpK_take0 (v := ?_) (a' := ?_) 16 rfl (by kernel_rfl) (by kernel_rfl) (by kernel_rfl) (by kernel_rfl) (fun _ _ _ h => h) ?_ ?_ ?_
            rotate_left 2
            · refine .inl ⟨by kernel_rfl, ?_⟩; intro wS hS; clear hS; go_simp; with_reducible rfl
            · go_simp; with_reducible rfl
            refine wpK_take0 (v := ?_) (a' := ?_) 17 rfl (by kernel_rfl) (by kernel_rfl) (by kernel_rfl) (by kernel_rfl) (fun _ _ _ h => h) ?_ ?_ ?_
            rotate_left 2
            · refine .inl ⟨by kernel_rfl, ?_⟩; intro wS hS; clear hS; go_simp; with_reducible rfl
            · go_simp; with_reducible rfl
            refine wpK_take0 (v := ?_) (a' := ?_) 18 rfl (by kernel_rfl) (by kernel_rfl) (by kernel_rfl) (by kernel_rfl) (fun _ _ _ h => h) ?_ ?_ ?_
            rotate_left 2
            · refine .inl ⟨by kernel_rfl, ?_⟩; intro wS hS; clear hS; go_simp; with_reducible rfl
            · go_simp; with_reducible rfl
            refine wpK_take0 (v := ?_) (a' := ?_) 19 rfl (by kernel_rfl) (by kernel_rfl) (by kernel_rfl) (by kernel_rfl) (fun _ _ _ h => h) ?_ ?_ ?_
            rotate_left 2
            · refine .inl ⟨by kernel_rfl, ?_⟩; intro wS hS; clear hS; go_simp; with_reducible rfl
            · go_simp; with_reducible rfl
            refine wpK_take0 (v := ?_) (a' := ?_) 20 rfl (by kernel_rfl) (by kernel_rfl) (by kernel_rfl) (by kernel_rfl) (fun _ _ _ h => h) ?_ ?_ ?_
            rotate_left 2
            · refine .inl ⟨by kernel_rfl, ?_⟩; intro wS hS; clear hS; go_simp; with_reducible rfl
            · go_simp; with_reducible rfl
            refine wpK_take0 (v := ?_) (a' := ?_) 21 rfl (by kernel_rfl) (by kernel_rfl) (by kernel_rfl) (by kernel_rfl) (fun _ _ _ h => h) ?_ ?_ ?_
            rotate_left 2
            · refine .inl ⟨by kernel_rfl, ?_⟩; intro wS hS; clear hS; go_simp; with_reducible rfl
            · go_simp; with_reducible rfl
            refine wpK_take (v := ?_) (a' := ?_) 22 rfl (by kernel_rfl) (by kernel_rfl) (by kernel_rfl) (by kernel_rfl) (by kernel_rfl) (fun _ _ _ h => h) (below_drew1 (Below.refl _ _)) ?_ ?_ ?_
            rotate_left 2
            · refine .inl ⟨by kernel_rfl, ?_⟩; intro wS hS; obtain ⟨c1, c2, c3, c4, c5⟩ := HCC.out _ hS; go_simp; with_reducible rfl
            · go_simp; with_reducible rfl
            refine wpK_take0 (v := ?_) (a' := ?_) 23 rfl (by kernel_rfl) (by kernel_rfl) (by kernel_rfl) (by kernel_rfl) (fun _ _ _ h => h) ?_ ?_ ?_
            rotate_left 2
            · refine .inl ⟨by kernel_rfl, ?_⟩; intro wS hS; clear hS; go_simp; with_reducible rfl
            · go_simp; with_reducible rfl
            refine wpK_take (v := ?_) (a' := ?_) 24 rfl (by kernel_rfl) (by kernel_rfl) (by kernel_rfl) (by kernel_rfl) (by kernel_rfl) (fun _ _ _ h => h) (below_drew1 (Below.refl _ _)) ?_ ?_ ?_
            rotate_left 2
            · refine .inl ⟨by kernel_rfl, ?_⟩; intro wS hS; obtain ⟨c1, c2, c3, c4, c5⟩ := HCC.out _ hS; go_simp; with_reducible rfl
            · go_simp; with_reducible rfl
            refine wpK_take0 (v := ?_) (a' := ?_) 25 rfl (by kernel_rfl) (by kernel_rfl) (by kernel_rfl) (by kernel_rfl) (fun _ _ _ h => h) ?_ ?_ ?_
            rotate_left 2
            · refine .inl ⟨by kernel_rfl, ?_⟩; intro wS hS; clear hS; go_simp; with_reducible rfl
            · go_simp; with_reducible rfl
            refine wpK_take0 (v := ?_) (a' := ?_) 26 rfl (by kernel_rfl) (by kernel_rfl) (by kernel_rfl) (by kernel_rfl) (fun _ _ _ h => h) ?_ ?_ ?_
            rotate_left 2
            · refine .inl ⟨by kernel_rfl, ?_⟩; intro wS hS; clear hS; go_simp; with_reducible rfl
            · go_simp; with_reducible rfl
            refine wpK_take0 (v := ?_) (a' := ?_) 27 rfl (by kernel_rfl) (by kernel_rfl) (by kernel_rfl) (by kernel_rfl) (fun _ _ _ h => h) ?_ ?_ ?_
            rotate_left 2
            · refine .inl ⟨by kernel_rfl, ?_⟩; intro wS hS; clear hS; go_simp; with_reducible rfl
            · go_simp; with_reducible rfl
            refine wpK_end (by kernel_rfl) ?_ _
            go_wp2
            go_roundw
            case rel => exact ⟨m + 1, by omega, by go_num, HF.out, HBI.out.drew⟩
            case measure => simp [intOf]; omega
          skip
          · have q6 : (n5 == nx) = true := by simpa using h6
            have q7 : (n6 == ny) = false := by simpa using h7
            have HF := Lib.hid (HNO.out fun e => (by have := e H5.out; simp [h6, h7] at this))
            clear h6 h7
            go_upto_region 13 with fail
            refine wp_region_K (fun w' => Below wr.heap.size wr w') (fun j => true) (by kernel_rfl) ?_
            refine wpK_take0 (v := ?_) (a' := ?_) 0 rfl (by kernel_rfl) (by kernel_rfl) (by kernel_rfl) (by kernel_rfl) (fun _ _ _ h => h) ?_ ?_ ?_
            rotate_left 2
            · refine .inl ⟨by kernel_rfl, ?_⟩; intro wS hS; clear hS; go_simp; with_reducible rfl
            · go_simp; with_reducible rfl
            refine wpK_take0 (v := ?_) (a' := ?_) 1 rfl (by kernel_rfl) (by kernel_rfl) (by kernel_rfl) (by kernel_rfl) (fun _ _ _ h => h) ?_ ?_ ?_
            rotate_left 2
            · refine .inl ⟨by kernel_rfl, ?_⟩; intro wS hS; clear hS; go_simp; with_reducible rfl
            · go_simp; with_reducible rfl
            refine wpK_take0 (v := ?_) (a' := ?_) 2 rfl (by kernel_rfl) (by kernel_rfl) (by kernel_rfl) (by kernel_rfl) (fun _ _ _ h => h) ?_ ?_ ?_
            rotate_left 2
            · refine .inl ⟨by kernel_rfl, ?_⟩; intro wS hS; clear hS; go_simp; with_reducible rfl
            · go_simp; with_reducible rfl
            refine wpK_take0 (v := ?_) (a' := ?_) 3 rfl (by kernel_rfl) (by kernel_rfl) (by kernel_rfl) (by kernel_rfl) (fun _ _ _ h => h) ?_ ?_ ?_
            rotate_left 2
            · refine .inl ⟨by kernel_rfl, ?_⟩; intro wS hS; clear hS; go_simp; with_reducible rfl
            · go_simp; with_reducible rfl
            refine wpK_take0 (v := ?_) (a' := ?_) 4 rfl (by kernel_rfl) (by kernel_rfl) (by kernel_rfl) (by kernel_rfl) (fun _ _ _ h => h) ?_ ?_ ?_
            rotate_left 2
            · refine .inl ⟨by kernel_rfl, ?_⟩; intro wS hS; clear hS; go_simp; with_reducible rfl
            · go_simp; with_reducible rfl
            refine wpK_take (v := ?_) (a' := ?_) 5 rfl (by kernel_rfl) (by kernel_rfl) (by kernel_rfl) (by kernel_rfl) (by kernel_rfl) (fun _ _ _ h => h) (below_drew1 (Below.refl _ _)) ?_ ?_ ?_
            rotate_left 2
            · refine .inl ⟨by kernel_rfl, ?_⟩; intro wS hS; obtain ⟨c1, c2, c3, c4, c5⟩ := HCC.out _ hS; go_simp; with_reducible rfl
            · go_simp; with_reducible rfl
            refine wpK_take0 (v := ?_) (a' := ?_) 6 rfl (by kernel_rfl) (by kernel_rfl) (by kernel_rfl) (by kernel_rfl) (fun _ _ _ h => h) ?_ ?_ ?_
            rotate_left 2
            · refine .inl ⟨by kernel_rfl, ?_⟩; intro wS hS; clear hS; go_simp; with_reducible rfl
            · go_simp; with_reducible rfl
            refine wpK_take0 (v := ?_) (a' := ?_) 7 rfl (by kernel_rfl) (by kernel_rfl) (by kernel_rfl) (by kernel_rfl) (fun _ _ _ h => h) ?_ ?_ ?_
            rotate_left 2
            · refine .inl ⟨by kernel_rfl, ?_⟩; intro wS hS; clear hS; go_simp; with_reducible rfl
            · go_simp; with_reducible rfl
            refine wpK_take0 (v := ?_) (a' := ?_) 8 rfl (by kernel_rfl) (by kernel_rfl) (by kernel_rfl) (by kernel_rfl) (fun _ _ _ h => h) ?_ ?_ ?_
            rotate_left 2
            · refine .inl ⟨by kernel_rfl, ?_⟩; intro wS hS; clear hS; go_simp; with_reducible rfl
            · go_simp; with_reducible rfl
            refine wpK_take0 (v := ?_) (a' := ?_) 9 rfl (by kernel_rfl) (by kernel_rfl) (by kernel_rfl) (by kernel_rfl) (fun _ _ _ h => h) ?_ ?_ ?_
            rotate_left 2
            · refine .inl ⟨by kernel_rfl, ?_⟩; intro wS hS; clear hS; go_simp; with_reducible rfl
            · go_simp; with_reducible rfl
            refine wpK_take0 (v := ?_) (a' := ?_) 10 rfl (by kernel_rfl) (by kernel_rfl) (by kernel_rfl) (by kernel_rfl) (fun _ _ _ h => h) ?_ ?_ ?_
            rotate_left 2
            · refine .inl ⟨by kernel_rfl, ?_⟩; intro wS hS; clear hS; go_simp; with_reducible rfl
            · go_simp; with_reducible rfl
            refine wpK_take0 (v := ?_) (a' := ?_) 11 rfl (by kernel_rfl) (by kernel_rfl) (by kernel_rfl) (by kernel_rfl) (fun _ _ _ h => h) ?_ ?_ ?_
            rotate_left 2
            · refine .inl ⟨by kernel_rfl, ?_⟩; intro wS hS; clear hS; go_simp; with_reducible rfl
            · go_simp; with_reducible rfl
            refine wpK_take0 (v := ?_) (a' := ?_) 12 rfl (by kernel_rfl) (by kernel_rfl) (by kernel_rfl) (by kernel_rfl) (fun _ _ _ h => h) ?_ ?_ ?_
            rotate_left 2
            · refine .inl ⟨by kernel_rfl, ?_⟩; intro wS hS; clear hS; go_simp; with_reducible rfl
            · go_simp; with_reducible rfl
            refine wpK_take (v := ?_) (a' := ?_) 13 rfl (by kernel_rfl) (by kernel_rfl) (by kernel_rfl) (by kernel_rfl) (by kernel_rfl) (fun _ _ _ h => h) (below_drew1 (Below.refl _ _)) ?_ ?_ ?_
            rotate_left 2
            · refine .inl ⟨by kernel_rfl, ?_⟩; intro wS hS; obtain ⟨c1, c2, c3, c4, c5⟩ := HCC.out _ hS; go_simp; with_reducible rfl
            · go_simp; with_reducible rfl
            refine wpK_take0 (v := ?_) (a' := ?_) 14 rfl (by kernel_rfl) (by kernel_rfl) (by kernel_rfl) (by kernel_rfl) (fun _ _ _ h => h) ?_ ?_ ?_
            rotate_left 2
            · refine .inl ⟨by kernel_rfl, ?_⟩; intro wS hS; clear hS; go_simp; with_reducible rfl
            · go_simp; with_reducible rfl
            refine wpK_take (v := ?_) (a' := ?_) 15 rfl (by kernel_rfl) (by kernel_rfl) (by kernel_rfl) (by kernel_rfl) (by kernel_rfl) (fun _ _ _ h => h) (below_drew1 (Below.refl _ _)) ?_ ?_ ?_
            rotate_left 2
            · refine .inl ⟨by kernel_rfl, ?_⟩; intro wS hS; obtain ⟨c1, c2, c3, c4, c5⟩ := HCC.out _ hS; go_simp; with_reducible rfl
            · go_simp; with_reducible rfl
            refine wpK_take0 (v := ?_) (a' := ?_) 16 rfl (by kernel_rfl) (by kernel_rfl) (by kernel_rfl) (by kernel_rfl) (fun _ _ _ h => h) ?_ ?_ ?_
            rotate_left 2
            · refine .inl ⟨by kernel_rfl, ?_⟩; intro wS hS; clear hS; go_simp; with_reducible rfl
            · go_simp; with_reducible rfl
            refine wpK_take0 (v := ?_) (a' := ?_) 17 rfl (by kernel_rfl) (by kernel_rfl) (by kernel_rfl) (by kernel_rfl) (fun _ _ _ h => h) ?_ ?_ ?_
            rotate_left 2
            · refine .inl ⟨by kernel_rfl, ?_⟩; intro wS hS; clear hS; go_simp; with_reducible rfl
            · go_simp; with_reducible rfl
            refine wpK_take0 (v := ?_) (a' := ?_) 18 rfl (by kernel_rfl) (by kernel_rfl) (by kernel_rfl) (by kernel_rfl) (fun _ _ _ h => h) ?_ ?_ ?_
            rotate_left 2
            · refine .inl ⟨by kernel_rfl, ?_⟩; intro wS hS; clear hS; go_simp; with_reducible rfl
            · go_simp; with_reducible rfl
            refine wpK_take0 (v := ?_) (a' := ?_) 19 rfl (by kernel_rfl) (by kernel_rfl) (by kernel_rfl) (by kernel_rfl) (fun _ _ _ h => h) ?_ ?_ ?_
            rotate_left 2
            · refine .inl ⟨by kernel_rfl, ?_⟩; intro wS hS; clear hS; go_simp; with_reducible rfl
            · go_simp; with_reducible rfl
            refine wpK_take0 (v := ?_) (a' := ?_) 20 rfl (by kernel_rfl) (by kernel_rfl) (by kernel_rfl) (by kernel_rfl) (fun _ _ _ h => h) ?_ ?_ ?_
            rotate_left 2
            · refine .inl ⟨by kernel_rfl, ?_⟩; intro wS hS; clear hS; go_simp; with_reducible rfl
            · go_simp; with_reducible rfl
            refine wpK_take0 (v := ?_) (a' := ?_) 21 rfl (by kernel_rfl) (by kernel_rfl) (by kernel_rfl) (by kernel_rfl) (fun _ _ _ h => h) ?_ ?_ ?_
            rotate_left 2
            · refine .inl ⟨by kernel_rfl, ?_⟩; intro wS hS; clear hS; go_simp; with_reducible rfl
            · go_simp; with_reducible rfl
            refine wpK_take (v := ?_) (a' := ?_) 22 rfl (by kernel_rfl) (by kernel_rfl) (by kernel_rfl) (by kernel_rfl) (by kernel_rfl) (fun _ _ _ h => h) (below_drew1 (Below.refl _ _)) ?_ ?_ ?_
            rotate_left 2
            · refine .inl ⟨by kernel_rfl, ?_⟩; intro wS hS; obtain ⟨c1, c2, c3, c4, c5⟩ := HCC.out _ hS; go_simp; with_reducible rfl
            · go_simp; with_reducible rfl
            refine wpK_take0 (v := ?_) (a' := ?_) 23 rfl (by kernel_rfl) (by kernel_rfl) (by kernel_rfl) (by kernel_rfl) (fun _ _ _ h => h) ?_ ?_ ?_
            rotate_left 2
            · refine .inl ⟨by kernel_rfl, ?_⟩; intro wS hS; clear hS; go_simp; with_reducible rfl
            · go_simp; with_reducible rfl
            refine wpK_take (v := ?_) (a' := ?_) 24 rfl (by kernel_rfl) (by kernel_rfl) (by kernel_rfl) (by kernel_rfl) (by kernel_rfl) (fun _ _ _ h => h) (below_drew1 (Below.refl _ _)) ?_ ?_ ?_
            rotate_left 2
            · refine .inl ⟨by kernel_rfl, ?_⟩; intro wS hS; obtain ⟨c1, c2, c3, c4, c5⟩ := HCC.out _ hS; go_simp; with_reducible rfl
            · go_simp; with_reducible rfl
            refine wpK_take0 (v := ?_) (a' := ?_) 25 rfl (by kernel_rfl) (by kernel_rfl) (by kernel_rfl) (by kernel_rfl) (fun _ _ _ h => h) ?_ ?_ ?_
            rotate_left 2
            · refine .inl ⟨by kernel_rfl, ?_⟩; intro wS hS; clear hS; go_simp; with_reducible rfl
            · go_simp; with_reducible rfl
            refine wpK_take0 (v := ?_) (a' := ?_) 26 rfl (by kernel_rfl) (by kernel_rfl) (by kernel_rfl) (by kernel_rfl) (fun _ _ _ h => h) ?_ ?_ ?_
            rotate_left 2
            · refine .inl ⟨by kernel_rfl, ?_⟩; intro wS hS; clear hS; go_simp; with_reducible rfl
            · go_simp; with_reducible rfl
            refine wpK_take0 (v := ?_) (a' := ?_) 27 rfl (by kernel_rfl) (by kernel_rfl) (by kernel_rfl) (by kernel_rfl) (fun _ _ _ h => h) ?_ ?_ ?_
            rotate_left 2
            · refine .inl ⟨by kernel_rfl, ?_⟩; intro wS hS; clear hS; go_simp; with_reducible rfl
            · go_simp; with_reducible rfl
            refine wpK_end (by kernel_rfl) ?_ _
            go_wp2
            go_ret
            exact ⟨false, rfl, no_iff HF.out, below_then HB.out (below_then HBR.out (below_then HP2.out (HBI.out.drew)))⟩
          skip
          · have q6 : (n5 == nx) = false := by simpa using h6
            have q7 : (n6 == ny) = true := by simpa using h7
            have HF := Lib.hid (HNO.out fun e => (by have := e H5.out; simp [h6, h7] at this))
            clear h6 h7
            go_upto_region 13 with fail
            refine wp_region_K (fun w' => Below wr.heap.size wr w') (fun j => true) (by kernel_rfl) ?_
            refine wpK_take0 (v := ?_) (a' := ?_) 0 rfl (by kernel_rfl) (by kernel_rfl) (by kernel_rfl) (by kernel_rfl) (fun _ _ _ h => h) ?_ ?_ ?_
            rotate_left 2
            · refine .inl ⟨by kernel_rfl, ?_⟩; intro wS hS; clear hS; go_simp; with_reducible rfl
            · go_simp; with_reducible rfl
            refine wpK_take0 (v := ?_) (a' := ?_) 1 rfl (by kernel_rfl) (by kernel_rfl) (by kernel_rfl) (by kernel_rfl) (fun _ _ _ h => h) ?_ ?_ ?_
            rotate_left 2
            · refine .inl ⟨by kernel_rfl, ?_⟩; intro wS hS; clear hS; go_simp; with_reducible rfl
            · go_simp; with_reducible rfl
            refine wpK_take0 (v := ?_) (a' := ?_) 2 rfl (by kernel_rfl) (by kernel_rfl) (by kernel_rfl) (by kernel_rfl) (fun _ _ _ h => h) ?_ ?_ ?_
            rotate_left 2
            · refine .inl ⟨by kernel_rfl, ?_⟩; intro wS hS; clear hS; go_simp; with_reducible rfl
            · go_simp; with_reducible rfl
            refine wpK_take0 (v := ?_) (a' := ?_) 3 rfl (by kernel_rfl) (by kernel_rfl) (by kernel_rfl) (by kernel_rfl) (fun _ _ _ h => h) ?_ ?_ ?_
            rotate_left 2
            · refine .inl ⟨by kernel_rfl, ?_⟩; intro wS hS; clear hS; go_simp; with_reducible rfl
            · go_simp; with_reducible rfl
            refine wpK_take0 (v := ?_) (a' := ?_) 4 rfl (by kernel_rfl) (by kernel_rfl) (by kernel_rfl) (by kernel_rfl) (fun _ _ _ h => h) ?_ ?_ ?_
            rotate_left 2
            · refine .inl ⟨by kernel_rfl, ?_⟩; intro wS hS; clear hS; go_simp; with_reducible rfl
            · go_simp; with_reducible rfl
            refine wpK_take (v := ?_) (a' := ?_) 5 rfl (by kernel_rfl) (by kernel_rfl) (by kernel_rfl) (by kernel_rfl) (by kernel_rfl) (fun _ _ _ h => h) (below_drew1 (Below.refl _ _)) ?_ ?_ ?_
            rotate_left 2
            · refine .inl ⟨by kernel_rfl, ?_⟩; intro wS hS; obtain ⟨c1, c2, c3, c4, c5⟩ := HCC.out _ hS; go_simp; with_reducible rfl
            · go_simp; with_reducible rfl
            refine wpK_take0 (v := ?_) (a' := ?_) 6 rfl (by kernel_rfl) (by kernel_rfl) (by kernel_rfl) (by kernel_rfl) (fun _ _ _ h => h) ?_ ?_ ?_
            rotate_left 2
            · refine .inl ⟨by kernel_rfl, ?_⟩; intro wS hS; clear hS; go_simp; with_reducible rfl
            · go_simp; with_reducible rfl
            refine wpK_take0 (v := ?_) (a' := ?_) 7 rfl (by kernel_rfl) (by kernel_rfl) (by kernel_rfl) (by kernel_rfl) (fun _ _ _ h => h) ?_ ?_ ?_
            rotate_left 2
            · refine .inl ⟨by kernel_rfl, ?_⟩; intro wS hS; clear hS; go_simp; with_reducible rfl
            · go_simp; with_reducible rfl
            refine wpK_take0 (v := ?_) (a' := ?_) 8 rfl (by kernel_rfl) (by kernel_rfl) (by kernel_rfl) (by kernel_rfl) (fun _ _ _ h => h) ?_ ?_ ?_
            rotate_left 2
            · refine .inl ⟨by kernel_rfl, ?_⟩; intro wS hS; clear hS; go_simp; with_reducible rfl
            · go_simp; with_reducible rfl
            refine wpK_take0 (v := ?_) (a' := ?_) 9 rfl (by kernel_rfl) (by kernel_rfl) (by kernel_rfl) (by kernel_rfl) (fun _ _ _ h => h) ?_ ?_ ?_
            rotate_left 2
            · refine .inl ⟨by kernel_rfl, ?_⟩; intro wS hS; clear hS; go_simp; with_reducible rfl
            · go_simp; with_reducible rfl
            refine wpK_take0 (v := ?_) (a' := ?_) 10 rfl (by kernel_rfl) (by kernel_rfl) (by kernel_rfl) (by kernel_rfl) (fun _ _ _ h => h) ?_ ?_ ?_
            rotate_left 2
            · refine .inl ⟨by kernel_rfl, ?_⟩; intro wS hS; clear hS; go_simp; with_reducible rfl
            · go_simp; with_reducible rfl
            refine wpK_take0 (v := ?_) (a' := ?_) 11 rfl (by kernel_rfl) (by kernel_rfl) (by kernel_rfl) (by kernel_rfl) (fun _ _ _ h => h) ?_ ?_ ?_
            rotate_left 2
            · refine .inl ⟨by kernel_rfl, ?_⟩; intro wS hS; clear hS; go_simp; with_reducible rfl
            · go_simp; with_reducible rfl
            refine wpK_take0 (v := ?_) (a' := ?_) 12 rfl (by kernel_rfl) (by kernel_rfl) (by kernel_rfl) (by kernel_rfl) (fun _ _ _ h => h) ?_ ?_ ?_
            rotate_left 2
            · refine .inl ⟨by kernel_rfl, ?_⟩; intro wS hS; clear hS; go_simp; with_reducible rfl
            · go_simp; with_reducible rfl
            refine wpK_take (v := ?_) (a' := ?_) 13 rfl (by kernel_rfl) (by kernel_rfl) (by kernel_rfl) (by kernel_rfl) (by kernel_rfl) (fun _ _ _ h => h) (below_drew1 (Below.refl _ _)) ?_ ?_ ?_
            rotate_left 2
            · refine .inl ⟨by kernel_rfl, ?_⟩; intro wS hS; obtain ⟨c1, c2, c3, c4, c5⟩ := HCC.out _ hS; go_simp; with_reducible rfl
            · go_simp; with_reducible rfl
            refine wpK_take0 (v := ?_) (a' := ?_) 14 rfl (by kernel_rfl) (by kernel_rfl) (by kernel_rfl) (by kernel_rfl) (fun _ _ _ h => h) ?_ ?_ ?_
            rotate_left 2
            · refine .inl ⟨by kernel_rfl, ?_⟩; intro wS hS; clear hS; go_simp; with_reducible rfl
            · go_simp; with_reducible rfl
            refine wpK_take (v := ?_) (a' := ?_) 15 rfl (by kernel_rfl) (by kernel_rfl) (by kernel_rfl) (by kernel_rfl) (by kernel_rfl) (fun _ _ _ h => h) (below_drew1 (Below.refl _ _)) ?_ ?_ ?_
            rotate_left 2
            · refine .inl ⟨by kernel_rfl, ?_⟩; intro wS hS; obtain ⟨c1, c2, c3, c4, c5⟩ := HCC.out _ hS; go_simp; with_reducible rfl
            · go_simp; with_reducible rfl
            refine wpK_take0 (v := ?_) (a' := ?_) 16 rfl (by kernel_rfl) (by kernel_rfl) (by kernel_rfl) (by kernel_rfl) (fun _ _ _ h => h) ?_ ?_ ?_
            rotate_left 2
            · refine .inl ⟨by kernel_rfl, ?_⟩; intro wS hS; clear hS; go_simp; with_reducible rfl
            · go_simp; with_reducible rfl
            refine wpK_take0 (v := ?_) (a' := ?_) 17 rfl (by kernel_rfl) (by kernel_rfl) (by kernel_rfl) (by kernel_rfl) (fun _ _ _ h => h) ?_ ?_ ?_
            rotate_left 2
            · refine .inl ⟨by kernel_rfl, ?_⟩; intro wS hS; clear hS; go_simp; with_reducible rfl
            · go_simp; with_reducible rfl
            refine wpK_take0 (v := ?_) (a' := ?_) 18 rfl (by kernel_rfl) (by kernel_rfl) (by kernel_rfl) (by kernel_rfl) (fun _ _ _ h => h) ?_ ?_ ?_
            rotate_left 2
            · refine .inl ⟨by kernel_rfl, ?_⟩; intro wS hS; clear hS; go_simp; with_reducible rfl
            · go_simp; with_reducible rfl
            refine wpK_take0 (v := ?_) (a' := ?_) 19 rfl (by kernel_rfl) (by kernel_rfl) (by kernel_rfl) (by kernel_rfl) (fun _ _ _ h => h) ?_ ?_ ?_
            rotate_left 2
            · refine .inl ⟨by kernel_rfl, ?_⟩; intro wS hS; clear hS; go_simp; with_reducible rfl
            · go_simp; with_reducible rfl
            refine wpK_take0 (v := ?_) (a' := ?_) 20 rfl (by kernel_rfl) (by kernel_rfl) (by kernel_rfl) (by kernel_rfl) (fun _ _ _ h => h) ?_ ?_ ?_
            rotate_left 2
            · refine .inl ⟨by kernel_rfl, ?_⟩; intro wS hS; clear hS; go_simp; with_reducible rfl
            · go_simp; with_reducible rfl
            refine wpK_take0 (v := ?_) (a' := ?_) 21 rfl (by kernel_rfl) (by kernel_rfl) (by kernel_rfl) (by kernel_rfl) (fun _ _ _ h => h) ?_ ?_ ?_
            rotate_left 2
            · refine .inl ⟨by kernel_rfl, ?_⟩; intro wS hS; clear hS; go_simp; with_reducible rfl
            · go_simp; with_reducible rfl
            refine wpK_take (v := ?_) (a' := ?_) 22 rfl (by kernel_rfl) (by kernel_rfl) (by kernel_rfl) (by kernel_rfl) (by kernel_rfl) (fun _ _ _ h => h) (below_drew1 (Below.refl _ _)) ?_ ?_ ?_
            rotate_left 2
            · refine .inl ⟨by kernel_rfl, ?_⟩; intro wS hS; obtain ⟨c1, c2, c3, c4, c5⟩ := HCC.out _ hS; go_simp; with_reducible rfl
            · go_simp; with_reducible rfl
            refine wpK_take0 (v := ?_) (a' := ?_) 23 rfl (by kernel_rfl) (by kernel_rfl) (by kernel_rfl) (by kernel_rfl) (fun _ _ _ h => h) ?_ ?_ ?_
            rotate_left 2
            · refine .inl ⟨by kernel_rfl, ?_⟩; intro wS hS; clear hS; go_simp; with_reducible rfl
            · go_simp; with_reducible rfl
            refine wpK_take (v := ?_) (a' := ?_) 24 rfl (by kernel_rfl) (by kernel_rfl) (by kernel_rfl) (by kernel_rfl) (by kernel_rfl) (fun _ _ _ h => h) (below_drew1 (Below.refl _ _)) ?_ ?_ ?_
            rotate_left 2
            · refine .inl ⟨by kernel_rfl, ?_⟩; intro wS hS; obtain ⟨c1, c2, c3, c4, c5⟩ := HCC.out _ hS; go_simp; with_reducible rfl
            · go_simp; with_reducible rfl
            refine wpK_take0 (v := ?_) (a' := ?_) 25 rfl (by kernel_rfl) (by kernel_rfl) (by kernel_rfl) (by kernel_rfl) (fun _ _ _ h => h) ?_ ?_ ?_
            rotate_left 2
            · refine .inl ⟨by kernel_rfl, ?_⟩; intro wS hS; clear hS; go_simp; with_reducible rfl
            · go_simp; with_reducible rfl
            refine wpK_take0 (v := ?_) (a' := ?_) 26 rfl (by kernel_rfl) (by kernel_rfl) (by kernel_rfl) (by kernel_rfl) (fun _ _ _ h => h) ?_ ?_ ?_
            rotate_left 2
            · refine .inl ⟨by kernel_rfl, ?_⟩; intro wS hS; clear hS; go_simp; with_reducible rfl
            · go_simp; with_reducible rfl
            refine wpK_take0 (v := ?_) (a' := ?_) 27 rfl (by kernel_rfl) (by kernel_rfl) (by kernel_rfl) (by kernel_rfl) (fun _ _ _ h => h) ?_ ?_ ?_
            rotate_left 2
            · refine .inl ⟨by kernel_rfl, ?_⟩; intro wS hS; clear hS; go_simp; with_reducible rfl
            · go_simp; with_reducible rfl
            refine wpK_end (by kernel_rfl) ?_ _
            go_wp2
            go_ret
            exact ⟨false, rfl, no_iff HF.out, below_then HB.out (below_then HBR.out (below_then HP2.out (HBI.out.drew)))⟩
      case inr.inl =>
        have q4 : (kx != 1) = true := by simpa using h4
        have q6 : (kx == 1) = false := by simpa using h4
        have q5 : (nx != ny) = false := by simpa using h5
        have HOK := Lib.hid (HNL.out.1 ⟨HH.out.1, HH.out.2.1, HH.out.2.2, fun e => h5⟩)
        have HK4 := Lib.hid h4
        have HNEXT : Hid ((∀ i, i < j → varLike P Q j i) → ∀ i, i < j + 1 → nodeLike P Q i ∧ ∀ m, m < i → varLike P Q i m) := Lib.hid fun h i hi => (by by_cases e : i = j; (· subst e; exact ⟨HOK.out, h⟩); (· exact HALL.out i (by omega)))
        clear h4 h5
        go_wp2
        go_loopw [10] (fun z wr => ∃ m : Nat, m ≤ j ∧ z = .int .i64 m ∧ (∀ i, i < m → varLike P Q j i) ∧ Below wx.heap.size wx wr) (fun z _ => j - (intOf z).toNat)
        case atStart => exact ⟨0, Nat.zero_le _, rfl, fun i h => absurd h (Nat.not_lt_zero _), Below.refl _ _⟩
        case round =>
          obtain ⟨m, hm, rfl, hv, hbi⟩ := hrel
          obtain ⟨z0, z1, z2⟩ := HCL.out wr hbi
          have HBI := Lib.hid hbi
          have HV := Lib.hid hv
          clear hv hbi
          by_cases hmj : m < j
          case neg =>
            obtain rfl : m = j := by omega
            go_wp2
            go_roundw
            case rel => exact ⟨m + 1, by omega, by go_num, HNEXT.out (HV.out), below_then HBR.out (below_then HP2.out HBI.out)⟩
            case measure => simp [intOf]; omega
          go_wp2
          go_roundw
          case rel => exact ⟨j + 1, by omega, by go_num, HNEXT.out (fun i hi => (HVL.out i (by omega) (by omega)).1 fun e => absurd e HK4.out), below_then HBR.out (below_then HP2.out HBI.out)⟩
          case measure => simp [intOf]; omega
end Go.Proofs.Ytgdclchpccbifaa
