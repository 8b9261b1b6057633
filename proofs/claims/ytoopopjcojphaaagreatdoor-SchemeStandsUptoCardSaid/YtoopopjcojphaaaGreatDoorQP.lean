import Derived.Test.YtoopopjcojphaaaGreatDoorQO
import Derived.Test.YtoopopjcojphaaaGreatDoorQL
import Derived.Lib.SlBytesRow
/-
  show's WRITER, IV: the closures of bareTy, bareTy, ty.
-/
namespace Go.Proofs.YtoopopjcojphaaaGreatDoor
open Go.ChangeShapes Go.WideShapes Go.ChangeAt Go.RowKit
set_option linter.unusedVariables false
def vtQ (n : Int) : List UInt8 := 39 :: varTx n
def partQ (t : Tt) : Nat × List UInt8 := (lvN t.name, txT vtQ t)
/-- What ty does with a type at ⟨b, o⟩. -/
def TyDoes (w0 : World) (P M : Nat) (t : Tt) (b o : Nat) : Prop := ∀ (k : Nat) W bs g, Below w0.heap.size w0 W → WS w0.heap.size P W bs g → bs.length ≤ M →
  Calls Tryz.prog 66 #[.pointer (some ⟨P, 0, none⟩), .pointer (some ⟨b, o, none⟩), .int .i64 k] W (Wrote w0.heap.size P W (bs ++ (sp g ++ wrK k (partQ t))) false)
set_option maxRecDepth 100000 in
set_option maxHeartbeats 4000000 in
theorem bare1_any {w0 w : World} {P M b o b' o' c c2 c3 : Nat} {t : Tt} (hb0 : Below w0.heap.size w0 w) (hbb : b < w0.heap.size) (h2 : w.heap[c2]? = some (.cells #[.pointer (some ⟨P, 0, none⟩)] 107 (0, 0))) (h3 : w.heap[c3]? = some (.cells #[.pointer (some ⟨b, o, none⟩)] 50 (0, 0)))
    (hc2 : c2 ≠ P) (hc3 : c3 ≠ P) (hN : Node w0 b o t (some ⟨b', o', none⟩) c) {i : Nat} (hi : i < t.args.length) (hD : TyDoes w0 P M t.args[i] b' (o' + i * 4)) (k : Nat) :
    Parts w0.heap.size P w M 89 #[.int .i64 i, .int .i64 k, .pointer (some ⟨c2, 0, none⟩), .pointer (some ⟨c3, 0, none⟩)] (wrK k (partQ t.args[i])) := by
  intro W bs g hb hk hws hl
  have HB0 := Lib.hid (hb0.trans hb)
  have HC2 : Hid (∀ W', Below W.heap.size W W' → W'.cell? ⟨c2, 0, none⟩ = some (.pointer (some ⟨P, 0, none⟩)) ∧ W'.cell? ⟨c3, 0, none⟩ = some (.pointer (some ⟨b, o, none⟩)) ∧ W'.cell? ⟨b, o + 3, none⟩ = some (.slice (some ⟨b', o', none⟩) t.args.length c)) := Lib.hid fun W' h =>
    ⟨kept_one (hk.trans (kept_on h)) h2 hc2 (by decide), kept_one (hk.trans (kept_on h)) h3 hc3 (by decide), (hN.keep (S := Lt w0.heap.size) (Same.of_below (HB0.out.trans (h.mono hws.2.1)) (fun x hx => hx)) hbb).2.2.2⟩
  have HD := Lib.hid (hD k W.drew bs g (below_drew1 HB0.out) (hws.on (below_drew1 (Below.refl _ _))) hl)
  clear h2 h3 hN hD hb hk hws hb0
  generalize t.args[i] = x at *
  go_enter Tryz.func89, Tryz.ntmps89
  refine wp_region_K (fun w' => Below W.heap.size W w') (fun j => j != 8) (by kernel_rfl) ?_
  refine wpK_take (v := ?_) (a' := ?_) 0 rfl (by kernel_rfl) (by kernel_rfl) (by kernel_rfl) (by kernel_rfl) (by kernel_rfl) (fun _ _ _ h => h) (below_drew1 (Below.refl _ _)) ?_ ?_ ?_
  rotate_left 2
  · refine .inl ⟨by kernel_rfl, ?_⟩; intro wS hS; have q0 := (HC2.out _ hS).1; have q1 := (HC2.out _ hS).2.1; have q2 := (HC2.out _ hS).2.2; go_simp; with_reducible rfl
  · go_simp; with_reducible rfl
  refine wpK_take (v := ?_) (a' := ?_) 1 rfl (by kernel_rfl) (by kernel_rfl) (by kernel_rfl) (by kernel_rfl) (by kernel_rfl) (fun _ _ _ h => h) (below_drew1 (Below.refl _ _)) ?_ ?_ ?_
  rotate_left 2
  · refine .inl ⟨by kernel_rfl, ?_⟩; intro wS hS; have q0 := (HC2.out _ hS).1; have q1 := (HC2.out _ hS).2.1; have q2 := (HC2.out _ hS).2.2; go_simp; with_reducible rfl
  · go_simp; with_reducible rfl
  refine wpK_take0 (v := ?_) (a' := ?_) 2 rfl (by kernel_rfl) (by kernel_rfl) (by kernel_rfl) (by kernel_rfl) (fun _ _ _ h => h) ?_ ?_ ?_
  rotate_left 2
  · refine .inl ⟨by kernel_rfl, ?_⟩; intro wS hS; clear hS; go_simp; with_reducible rfl
  · go_simp; with_reducible rfl
  refine wpK_take0 (v := ?_) (a' := ?_) 3 rfl (by kernel_rfl) (by kernel_rfl) (by kernel_rfl) (by kernel_rfl) (fun _ _ _ h => h) ?_ ?_ ?_
  rotate_left 2
  · refine .inl ⟨by kernel_rfl, ?_⟩; intro wS hS; clear hS; go_simp; with_reducible rfl
  · go_simp; with_reducible rfl
  refine wpK_take (v := ?_) (a' := ?_) 4 rfl (by kernel_rfl) (by kernel_rfl) (by kernel_rfl) (by kernel_rfl) (by kernel_rfl) (fun _ _ _ h => h) (below_drew1 (Below.refl _ _)) ?_ ?_ ?_
  rotate_left 2
  · refine .inl ⟨by kernel_rfl, ?_⟩; intro wS hS; have q0 := (HC2.out _ hS).1; have q1 := (HC2.out _ hS).2.1; have q2 := (HC2.out _ hS).2.2; go_simp; with_reducible rfl
  · go_simp; with_reducible rfl
  refine wpK_take0 (v := ?_) (a' := ?_) 5 rfl (by kernel_rfl) (by kernel_rfl) (by kernel_rfl) (by kernel_rfl) (fun _ _ _ h => h) ?_ ?_ ?_
  rotate_left 2
  · refine .inl ⟨by kernel_rfl, ?_⟩; intro wS hS; clear hS; go_simp; with_reducible rfl
  · go_simp; with_reducible rfl
  refine wpK_take0 (v := ?_) (a' := ?_) 6 rfl (by kernel_rfl) (by kernel_rfl) (by kernel_rfl) (by kernel_rfl) (fun _ _ _ h => h) ?_ ?_ ?_
  rotate_left 2
  · refine .inl ⟨by kernel_rfl, ?_⟩; intro wS hS; clear hS; go_simp; with_reducible rfl
  · go_simp; with_reducible rfl
  refine wpK_take0 (v := ?_) (a' := ?_) 7 rfl (by kernel_rfl) (by kernel_rfl) (by kernel_rfl) (by kernel_rfl) (fun _ _ _ h => h) ?_ ?_ ?_
  rotate_left 2
  · refine .inl ⟨by kernel_rfl, ?_⟩; intro wS hS; clear hS; go_simp; with_reducible rfl
  · go_simp; with_reducible rfl
  refine wpK_one 8 rfl (by kernel_rfl) (fun K hK => ?_)
  have HKK := Lib.hid hK
  clear hK
  go_wp2_with fail
  refine HD.out.mono ?_
  rintro e w1 ⟨rfl, h2, h3, h4⟩
  have H1 := Lib.hid (And.intro h2 (And.intro ((below_drew1 (Below.refl w0.heap.size W)).trans h3) ((kept_on (P := P) (below_drew1 (Below.refl W.heap.size W))).trans h4)))
  clear h2 h3 h4
  go_wp2
  refine HKK.out _ _ (fun h => absurd h (by decide)) ?_
  refine wpK_end (by kernel_rfl) ?_ _
  go_wp2
  go_end0
  exact ⟨rfl, H1.out⟩
set_option maxRecDepth 100000 in
theorem bare2_any {B P M c2 c3 c4 : Nat} {w : World} {i : Nat} {frag : List UInt8} (h4 : w.heap[c4]? = some (.cells #[.func (.func 89) #[] #[.pointer (some ⟨c2, 0, none⟩), .pointer (some ⟨c3, 0, none⟩)]] 125 (0, 0))) (hc4 : c4 ≠ P)
    (hD : Parts B P w M 89 #[.int .i64 i, .int .i64 2, .pointer (some ⟨c2, 0, none⟩), .pointer (some ⟨c3, 0, none⟩)] frag) :
    Parts B P w M 92 (#[.int .i64 i] ++ #[.pointer (some ⟨c4, 0, none⟩)]) frag := by
  intro W bs g hb hk hws hl
  have q0 := kept_one hk h4 hc4 (by decide)
  have HD := Lib.hid (hD W bs g hb hk hws hl)
  clear h4 hD hb hk hws
  show Calls Tryz.prog 92 #[.int .i64 i, .pointer (some ⟨c4, 0, none⟩)] W _
  go_enter Tryz.func92, Tryz.ntmps92
  go_wp2_with fail
  refine HD.out.mono ?_
  rintro e w1 ⟨rfl, h1⟩
  have H1 := Lib.hid h1
  clear h1
  go_wp2
  go_end0
  exact ⟨rfl, H1.out⟩
set_option maxRecDepth 100000 in
theorem bare3_any {B P M c2 c3 c4 : Nat} {w : World} {i : Nat} {frag : List UInt8} (h4 : w.heap[c4]? = some (.cells #[.func (.func 89) #[] #[.pointer (some ⟨c2, 0, none⟩), .pointer (some ⟨c3, 0, none⟩)]] 125 (0, 0))) (hc4 : c4 ≠ P)
    (hD : Parts B P w M 89 #[.int .i64 i, .int .i64 0, .pointer (some ⟨c2, 0, none⟩), .pointer (some ⟨c3, 0, none⟩)] frag) :
    Parts B P w M 94 (#[.int .i64 i] ++ #[.pointer (some ⟨c4, 0, none⟩)]) frag := by
  intro W bs g hb hk hws hl
  have q0 := kept_one hk h4 hc4 (by decide)
  have HD := Lib.hid (hD W bs g hb hk hws hl)
  clear h4 hD hb hk hws
  show Calls Tryz.prog 94 #[.int .i64 i, .pointer (some ⟨c4, 0, none⟩)] W _
  go_enter Tryz.func94, Tryz.ntmps94
  go_wp2_with fail
  refine HD.out.mono ?_
  rintro e w1 ⟨rfl, h1⟩
  have H1 := Lib.hid h1
  clear h1
  go_wp2
  go_end0
  exact ⟨rfl, H1.out⟩
end Go.Proofs.YtoopopjcojphaaaGreatDoor
/-
  show's WRITER, V: bareTy.
-/
namespace Go.Proofs.YtoopopjcojphaaaGreatDoor
open Go.ChangeShapes Go.WideShapes Go.ChangeAt Go.RowKit
set_option linter.unusedVariables false
theorem name_tok {k n : Int} {s : ByteArray} {l : List Tt} (hg : goodB (.mk k n s l) = true) (hk : k ≠ 1) (x : ByteArray) (h1 : x ≠ ⟨#[114, 101, 102]⟩) (h2 : x ≠ ⟨#[45, 62]⟩) (h3 : x ≠ ⟨#[42]⟩) (h4 : lowB x = false) : s ≠ x := by
  rintro rfl
  have hgc : (if k = 1 then decide (0 ≤ n) && decide (s = ⟨#[]⟩) && decide (l.length = 0)
  else if k ≠ 2 ∨ n ≠ 0 then false
  else if s ≠ ⟨#[114, 101, 102]⟩ ∧ s ≠ ⟨#[45, 62]⟩ ∧ s ≠ ⟨#[42]⟩ ∧ lowB s = false then false
  else decide ((argsB s).1 ≤ l.length) && decide ((l.length : Int) ≤ (argsB s).2)) = true := hg
  rw [if_neg hk] at hgc
  split at hgc
  · cases hgc
  · rw [if_pos ⟨h1, h2, h3, h4⟩] at hgc; cases hgc
theorem put_name {k n : Int} {s : ByteArray} {l : List Tt} (hg : goodB (.mk k n s l) = true) (hk : k ≠ 1) (bs : List UInt8) (g : Bool) : putB bs g s = bs ++ (sp g ++ s.data.toList) ∧ putG' s = false :=
  ⟨put_plain bs g s (name_tok hg hk _ (by decide) (by decide) (by decide) (by decide)) (name_tok hg hk _ (by decide) (by decide) (by decide) (by decide)) (name_tok hg hk _ (by decide) (by decide) (by decide) (by decide)),
   putG_no (name_tok hg hk _ (by decide) (by decide) (by decide) (by decide)) (name_tok hg hk _ (by decide) (by decide) (by decide) (by decide)) (name_tok hg hk _ (by decide) (by decide) (by decide) (by decide))⟩
theorem put_var (bs : List UInt8) (g : Bool) (n : Int) : putB bs g ⟨(39 :: varTx n).toArray⟩ = bs ++ (sp g ++ (39 :: varTx n)) ∧ putG' ⟨(39 :: varTx n).toArray⟩ = false := by
  have h : ∀ c : UInt8, c ≠ 39 → (⟨(39 :: varTx n).toArray⟩ : ByteArray) ≠ ⟨#[c]⟩ := fun c hc e => by
    have := congrArg (fun x : ByteArray => x.data.toList) e
    simp at this
    exact hc this.1.symm
  refine ⟨?_, putG_no (h _ (by decide)) (h _ (by decide)) (h _ (by decide))⟩
  rw [put_plain _ _ _ (h _ (by decide)) (h _ (by decide)) (h _ (by decide))]
/-- What holds of the world in which bareTy has made its closure. -/
structure BareAt (w0 : World) (P C : Nat) (t : Tt) (b o : Nat) (A : Option Addr) (c : Nat) (w : World) : Prop where
  low : Below w0.heap.size w0 w
  c2 : w.heap[C]? = some (.cells #[.pointer (some ⟨P, 0, none⟩)] 107 (0, 0))
  c3 : w.heap[C + 1]? = some (.cells #[.pointer (some ⟨b, o, none⟩)] 50 (0, 0))
  c4 : w.heap[C + 1 + 1]? = some (.cells #[.func (.func 89) #[] #[.pointer (some ⟨C, 0, none⟩), .pointer (some ⟨C + 1, 0, none⟩)]] 125 (0, 0))
  node : Node w0 b o t A c
theorem BareAt.on {w0 w w' : World} {P C b o c : Nat} {t : Tt} {A : Option Addr} (h : BareAt w0 P C t b o A c w) (hP : P < C) (hb : Below w0.heap.size w w') (hk : KeptW P w w') : BareAt w0 P C t b o A c w' :=
  ⟨h.low.trans hb, kept_row hk h.c2 (by omega) (by decide), kept_row hk h.c3 (by omega) (by decide), kept_row hk h.c4 (by omega) (by decide), h.node⟩
theorem BareAt.cells {w0 w : World} {P C b o c : Nat} {t : Tt} {A : Option Addr} (h : BareAt w0 P C t b o A c w) (hbb : b < w0.heap.size) : w.cell? ⟨C, 0, none⟩ = some (.pointer (some ⟨P, 0, none⟩)) ∧ w.cell? ⟨C + 1, 0, none⟩ = some (.pointer (some ⟨b, o, none⟩)) ∧
    w.cell? ⟨C + 1 + 1, 0, none⟩ = some (.func (.func 89) #[] #[.pointer (some ⟨C, 0, none⟩), .pointer (some ⟨C + 1, 0, none⟩)]) ∧ Node w b o t A c :=
  ⟨cell_one h.c2, cell_one h.c3, cell_one h.c4, h.node.keep (S := Lt w0.heap.size) (Same.of_below h.low (fun x hx => hx)) hbb⟩
theorem BareAt.part {w0 w : World} {P C M b o b' o' c : Nat} {t : Tt} (h : BareAt w0 P C t b o (some ⟨b', o', none⟩) c w) (hP : P < C) (hbb : b < w0.heap.size) {i : Nat} (hi : i < t.args.length) (hD : TyDoes w0 P M t.args[i] b' (o' + i * 4)) (k : Nat) :
    Parts w0.heap.size P w M 89 #[.int .i64 i, .int .i64 k, .pointer (some ⟨C, 0, none⟩), .pointer (some ⟨C + 1, 0, none⟩)] (wrK k (partQ t.args[i])) :=
  bare1_any h.low hbb h.c2 h.c3 (by omega) (by omega) h.node hi hD k
theorem sp_len (g : Bool) : (sp g).length ≤ 1 := by unfold sp; split <;> simp
/-- bareTy's beginning. -/
theorem bare_made {w0 w : World} {P b o c : Nat} {t : Tt} {A : Option Addr} {bs : List UInt8} {g : Bool} (hb0 : Below w0.heap.size w0 w) (h : WS w0.heap.size P w bs g) (hN : Node w0 b o t A c) :
    ∃ w2, w2 = ((w.alloc (.cells #[.pointer (some ⟨P, 0, none⟩)] 107)).alloc (.cells #[.pointer (some ⟨b, o, none⟩)] 50)).alloc (.cells #[.func (.func 89) #[] #[.pointer (some ⟨w.heap.size, 0, none⟩), .pointer (some ⟨w.heap.size + 1, 0, none⟩)]] 125) ∧
      BareAt w0 P w.heap.size t b o A c w2 ∧ WS w0.heap.size P w2 bs g ∧ Below w0.heap.size w w2 ∧ KeptW P w w2 ∧ w.heap.size ≤ w2.heap.size := by
  refine ⟨_, rfl, ?_⟩
  have hb : Below w.heap.size w (((w.alloc (.cells #[.pointer (some ⟨P, 0, none⟩)] 107)).alloc (.cells #[.pointer (some ⟨b, o, none⟩)] 50)).alloc (.cells #[.func (.func 89) #[] #[.pointer (some ⟨w.heap.size, 0, none⟩), .pointer (some ⟨w.heap.size + 1, 0, none⟩)]] 125)) :=
    ((below_new _ _).trans ((below_new _ _).mono (by simp only [World.size_alloc]; omega))).trans ((below_new _ _).mono (by simp only [World.size_alloc]; omega))
  refine ⟨⟨hb0.trans (hb.mono hb0.size), ?_, ?_, ?_, hN⟩, h.on hb, hb.mono h.2.1, kept_on hb, hb.size⟩
  · rw [(below_new _ _).block _ (by simp only [World.size_alloc]; omega), (below_new _ _).block _ (by simp only [World.size_alloc]; omega)]; exact heap_alloc_new _ _
  · rw [(below_new _ _).block _ (by simp only [World.size_alloc]; omega)]
    have := heap_alloc_new (w.alloc (.cells #[.pointer (some ⟨P, 0, none⟩)] 107)) (.cells #[.pointer (some ⟨b, o, none⟩)] 50)
    simpa using this
  · have := heap_alloc_new ((w.alloc (.cells #[.pointer (some ⟨P, 0, none⟩)] 107)).alloc (.cells #[.pointer (some ⟨b, o, none⟩)] 50)) (.cells #[.func (.func 89) #[] #[.pointer (some ⟨w.heap.size, 0, none⟩), .pointer (some ⟨w.heap.size + 1, 0, none⟩)]] 125)
    simpa using this
set_option maxRecDepth 100000 in
set_option maxHeartbeats 4000000 in
/-- A variable. -/
theorem bare_var {w0 w : World} {P b o c : Nat} {n : Int} {s : ByteArray} {l : List Tt} {A : Option Addr} {bs : List UInt8} {g : Bool} (hb0 : Below w0.heap.size w0 w) (h : WS w0.heap.size P w bs g) (hbb : b < w0.heap.size) (hN : Node w0 b o (.mk 1 n s l) A c)
    (h0 : 0 ≤ n) (h1 : n ≤ 9223372036854775807) (hT : Nu.Pow10 w0) (hl : bs.length ≤ 90000000) :
    Calls Tryz.prog 80 #[.pointer (some ⟨P, 0, none⟩), .pointer (some ⟨b, o, none⟩)] w (Wrote w0.heap.size P w (bs ++ (sp g ++ txT vtQ (.mk 1 n s l))) false) := by
  rw [tx_var]
  obtain ⟨w2, hw2, hba, hws, hbe, hke, hzz⟩ := bare_made hb0 h hN
  have hP := h.lt
  have HBA := Lib.hid hba
  have HWS := Lib.hid hws
  have HBK := Lib.hid (And.intro hbe hke)
  have HW2 := Lib.hid hw2
  have hzw := hb0.size
  have hcells := (Same.of_below (S := Lt w0.heap.size) hb0 (fun x hx => hx))
  obtain ⟨n0, n1, n2, n3⟩ := hN.keep hcells hbb
  have HC : Hid (∀ W', Below w2.heap.size w2 W' → W'.cell? ⟨w.heap.size, 0, none⟩ = some (.pointer (some ⟨P, 0, none⟩)) ∧ W'.cell? ⟨w.heap.size + 1, 0, none⟩ = some (.pointer (some ⟨b, o, none⟩)) ∧ W'.cell? ⟨b, o + 1, none⟩ = some (.int .i64 n)) := Lib.hid fun W' hW => by
    obtain ⟨z1, z2, _, z4⟩ := (HBA.out.on hP (hW.mono HWS.out.2.1) (kept_on hW)).cells hbb
    exact ⟨z1, z2, z4.2.1⟩
  have HV : Hid (∀ W', Below w2.heap.size w2 W' → Calls Tryz.prog 90 #[.int .i64 n] W' fun e w' => e = .returned (.string ⟨(39 :: varTx n).toArray⟩) ∧ Below W'.heap.size W' w') := Lib.hid fun W' hW => tyvar_any h0 h1 (hT.on ((HBA.out.on hP (hW.mono HWS.out.2.1) (kept_on hW)).low))
  have hvl := varTx_len n h0 h1
  simp only [Tt.kind, Tt.num, Tt.name, Tt.args] at n0 n1 n2 n3
  clear hb0 h hN hT hba hws hbe hke hw2 hcells
  have hbw : b < w.heap.size := by omega
  have hbw1 : b < w.heap.size + 1 := by omega
  have hbw2 : b < w.heap.size + 1 + 1 := by omega
  go_enter Tryz.func80, Tryz.ntmps80
  go_wp2_with fail
  rw [← HW2.out]
  refine wp_region_K (fun w' => Below w2.heap.size w2 w') (fun j => j != 7) (by kernel_rfl) ?_
  refine wpK_take (v := ?_) (a' := ?_) 0 rfl (by kernel_rfl) (by kernel_rfl) (by kernel_rfl) (by kernel_rfl) (by kernel_rfl) (fun _ _ _ h => h) (below_drew1 (Below.refl _ _)) ?_ ?_ ?_
  rotate_left 2
  · refine .inl ⟨by kernel_rfl, ?_⟩; intro wS hS; have q0 := (HC.out _ hS).1; have q1 := (HC.out _ hS).2.1; have q2 := (HC.out _ hS).2.2; go_simp; with_reducible rfl
  · go_simp; with_reducible rfl
  refine wpK_take (v := ?_) (a' := ?_) 1 rfl (by kernel_rfl) (by kernel_rfl) (by kernel_rfl) (by kernel_rfl) (by kernel_rfl) (fun _ _ _ h => h) (below_drew1 (Below.refl _ _)) ?_ ?_ ?_
  rotate_left 2
  · refine .inl ⟨by kernel_rfl, ?_⟩; intro wS hS; have q0 := (HC.out _ hS).1; have q1 := (HC.out _ hS).2.1; have q2 := (HC.out _ hS).2.2; go_simp; with_reducible rfl
  · go_simp; with_reducible rfl
  refine wpK_take0 (v := ?_) (a' := ?_) 2 rfl (by kernel_rfl) (by kernel_rfl) (by kernel_rfl) (by kernel_rfl) (fun _ _ _ h => h) ?_ ?_ ?_
  rotate_left 2
  · refine .inl ⟨by kernel_rfl, ?_⟩; intro wS hS; clear hS; go_simp; with_reducible rfl
  · go_simp; with_reducible rfl
  refine wpK_take0 (v := ?_) (a' := ?_) 3 rfl (by kernel_rfl) (by kernel_rfl) (by kernel_rfl) (by kernel_rfl) (fun _ _ _ h => h) ?_ ?_ ?_
  rotate_left 2
  · refine .inl ⟨by kernel_rfl, ?_⟩; intro wS hS; clear hS; go_simp; with_reducible rfl
  · go_simp; with_reducible rfl
  refine wpK_take (v := ?_) (a' := ?_) 4 rfl (by kernel_rfl) (by kernel_rfl) (by kernel_rfl) (by kernel_rfl) (by kernel_rfl) (fun _ _ _ h => h) (below_drew1 (Below.refl _ _)) ?_ ?_ ?_
  rotate_left 2
  · refine .inl ⟨by kernel_rfl, ?_⟩; intro wS hS; have q0 := (HC.out _ hS).1; have q1 := (HC.out _ hS).2.1; have q2 := (HC.out _ hS).2.2; go_simp; with_reducible rfl
  · go_simp; with_reducible rfl
  refine wpK_one 5 rfl (by kernel_rfl) (fun K hK => ?_)
  have HKK := Lib.hid hK
  clear hK
  go_wp2_with fail
  refine (HV.out _ (below_drew1 (Below.refl _ _))).mono ?_
  rintro e w3 ⟨rfl, hb3⟩
  have hb23 : Below w2.heap.size w2 w3 := (below_drew1 (Below.refl w2.heap.size w2)).trans hb3
  have HB3 := Lib.hid hb23
  have HPN := Lib.hid (wput_tok (HWS.out.on hb23) (by omega) ⟨(39 :: varTx n).toArray⟩ (by show (39 :: varTx n).toArray.size ≤ _; simp; omega))
  clear hb3 hb23
  go_wp2
  refine HKK.out _ _ (fun _ hS => HB3.out) ?_
  refine wpK_one 6 rfl (by kernel_rfl) (fun K hK => ?_)
  have HKK := Lib.hid hK
  clear hK
  go_wp2
  refine HKK.out _ _ (fun _ hS => hS.trans ((below_new _ _).mono hS.size)) ?_
  refine wpK_one 7 rfl (by kernel_rfl) (fun K hK => ?_)
  have HKK := Lib.hid hK
  clear hK
  go_wp2_with fail
  refine HPN.out.mono ?_
  rintro e w9 ⟨rfl, h2, h3, h4⟩
  have H9 := Lib.hid (And.intro h2 (And.intro (HBK.out.1.trans ((HB3.out.mono HWS.out.2.1).trans h3)) (HBK.out.2.trans ((kept_on HB3.out).trans h4))))
  clear h2 h3 h4
  go_wp2
  refine HKK.out _ _ (fun h => absurd h (by decide)) ?_
  refine wpK_end (by kernel_rfl) ?_ _
  go_wp2
  go_end0
  refine ⟨rfl, ?_, H9.out.2⟩
  have := H9.out.1
  rw [(put_var _ _ _).1, (put_var [] false n).2] at this
  exact this
set_option maxRecDepth 100000 in
set_option maxHeartbeats 4000000 in
theorem bare_zero {w0 w : World} {P b o c : Nat} {k n : Int} {s : ByteArray} {l : List Tt} {A : Option Addr} {bs : List UInt8} {g : Bool} (hb0 : Below w0.heap.size w0 w) (h : WS w0.heap.size P w bs g) (hbb : b < w0.heap.size) (hN : Node w0 b o (.mk k n s l) A c) (hk : k ≠ 1) (hf : formedT (.mk k n s l) = true) (hl : bs.length ≤ 90000000) (h0 : l = []) :
    Calls Tryz.prog 80 #[.pointer (some ⟨P, 0, none⟩), .pointer (some ⟨b, o, none⟩)] w (Wrote w0.heap.size P w (bs ++ (sp g ++ txT vtQ (.mk k n s l))) false) := by
  have hg := (formed_node hf).1
  obtain ⟨_, hs32, _, _⟩ := formed_con hf hk
  have hs : s.size ≤ 1048576 := by omega
  have HNM : Hid (∀ bs g, putB bs g s = bs ++ (sp g ++ s.data.toList) ∧ putG' s = false) := Lib.hid fun bs g => put_name hg hk bs g
  have q1 : (k == 1) = false := by simpa using hk
  have HTX : Hid (txT vtQ (.mk k n s l) = s.data.toList) := Lib.hid (by rw [tx_con _ hk, h0]; simp [conTx])
  have qa : s ≠ ⟨#[45, 62]⟩ := fun e => by have := (formed_con hf hk).2.2.1 e; rw [h0] at this; cases this
  have qb : s ≠ ⟨#[42]⟩ := fun e => by have := (formed_con hf hk).2.2.2 e; rw [h0] at this; simp at this
  have qa' := str_no qa
  have qb' := str_no qb
  clear qa qb
  obtain ⟨w2, hw2, hba, hws, hbe, hke, hzz⟩ := bare_made hb0 h hN
  have hP := h.lt
  have HBA := Lib.hid hba
  have HWS := Lib.hid hws
  have HBK := Lib.hid (And.intro hbe hke)
  have HW2 := Lib.hid hw2
  have hzw := hb0.size
  have hcells := (Same.of_below (S := Lt w0.heap.size) hb0 (fun x hx => hx))
  obtain ⟨n0, n1, n2, n3⟩ := hN.keep hcells hbb
  have HZ : Hid (∀ W', Below w0.heap.size w2 W' → KeptW P w2 W' → W'.cell? ⟨w.heap.size, 0, none⟩ = some (.pointer (some ⟨P, 0, none⟩)) ∧ W'.cell? ⟨w.heap.size + 1, 0, none⟩ = some (.pointer (some ⟨b, o, none⟩)) ∧
      W'.cell? ⟨w.heap.size + 1 + 1, 0, none⟩ = some (.func (.func 89) #[] #[.pointer (some ⟨w.heap.size, 0, none⟩), .pointer (some ⟨w.heap.size + 1, 0, none⟩)]) ∧ W'.cell? ⟨b, o + 2, none⟩ = some (.string s) ∧ W'.cell? ⟨b, o + 3, none⟩ = some (.slice A l.length c)) := Lib.hid fun W' hb hk => by
    obtain ⟨z1, z2, z3, z4⟩ := (HBA.out.on hP hb hk).cells hbb
    exact ⟨z1, z2, z3, z4.2.2.1, z4.2.2.2⟩
  have HQ := HWS
  have HR := HBK
  have HR2 : Hid (Below w0.heap.size w2 w2 ∧ KeptW P w2 w2) := Lib.hid ⟨Below.refl _ _, Lib.OthersKept.refl _ _ _⟩
  have hlq : bs.length ≤ 100000000 := by omega
  subst h0
  clear hb0 h hN hba hws hbe hke hw2 hcells hf hg hk
  simp only [Tt.kind, Tt.num, Tt.name, Tt.args] at n0 n1 n2 n3
  have hbw : b < w.heap.size := by omega
  have hbw1 : b < w.heap.size + 1 := by omega
  have hbw2 : b < w.heap.size + 1 + 1 := by omega
  go_enter Tryz.func80, Tryz.ntmps80
  go_upto_region 14 with fail
  rw [← HW2.out]
  have HCN : Hid (∀ W', Below w2.heap.size w2 W' → W'.cell? ⟨w.heap.size, 0, none⟩ = some (.pointer (some ⟨P, 0, none⟩)) ∧ W'.cell? ⟨w.heap.size + 1, 0, none⟩ = some (.pointer (some ⟨b, o, none⟩)) ∧ W'.cell? ⟨b, o + 2, none⟩ = some (.string s)) := Lib.hid fun W' hW => by
    have z := HZ.out W' (HR2.out.1.trans (hW.mono HQ.out.2.1)) (HR2.out.2.trans (kept_on hW))
    exact ⟨z.1, z.2.1, z.2.2.2.1⟩
  have HPN := Lib.hid (wput_tok (HQ.out.on (below_drew1 (Below.refl _ _))) hlq s hs)
  go_wp2
  refine wp_region_K (fun w' => Below w2.heap.size w2 w') (fun j => j != 6) (by kernel_rfl) ?_
  refine wpK_take (v := ?_) (a' := ?_) 0 rfl (by kernel_rfl) (by kernel_rfl) (by kernel_rfl) (by kernel_rfl) (by kernel_rfl) (fun _ _ _ h => h) (below_drew1 (Below.refl _ _)) ?_ ?_ ?_
  rotate_left 2
  · refine .inl ⟨by kernel_rfl, ?_⟩; intro wS hS; have q0 := (HCN.out _ hS).1; have q1 := (HCN.out _ hS).2.1; have q2 := (HCN.out _ hS).2.2; go_simp; with_reducible rfl
  · go_simp; with_reducible rfl
  refine wpK_take (v := ?_) (a' := ?_) 1 rfl (by kernel_rfl) (by kernel_rfl) (by kernel_rfl) (by kernel_rfl) (by kernel_rfl) (fun _ _ _ h => h) (below_drew1 (Below.refl _ _)) ?_ ?_ ?_
  rotate_left 2
  · refine .inl ⟨by kernel_rfl, ?_⟩; intro wS hS; have q0 := (HCN.out _ hS).1; have q1 := (HCN.out _ hS).2.1; have q2 := (HCN.out _ hS).2.2; go_simp; with_reducible rfl
  · go_simp; with_reducible rfl
  refine wpK_take0 (v := ?_) (a' := ?_) 2 rfl (by kernel_rfl) (by kernel_rfl) (by kernel_rfl) (by kernel_rfl) (fun _ _ _ h => h) ?_ ?_ ?_
  rotate_left 2
  · refine .inl ⟨by kernel_rfl, ?_⟩; intro wS hS; clear hS; go_simp; with_reducible rfl
  · go_simp; with_reducible rfl
  refine wpK_take0 (v := ?_) (a' := ?_) 3 rfl (by kernel_rfl) (by kernel_rfl) (by kernel_rfl) (by kernel_rfl) (fun _ _ _ h => h) ?_ ?_ ?_
  rotate_left 2
  · refine .inl ⟨by kernel_rfl, ?_⟩; intro wS hS; clear hS; go_simp; with_reducible rfl
  · go_simp; with_reducible rfl
  refine wpK_take (v := ?_) (a' := ?_) 4 rfl (by kernel_rfl) (by kernel_rfl) (by kernel_rfl) (by kernel_rfl) (by kernel_rfl) (fun _ _ _ h => h) (below_drew1 (Below.refl _ _)) ?_ ?_ ?_
  rotate_left 2
  · refine .inl ⟨by kernel_rfl, ?_⟩; intro wS hS; have q0 := (HCN.out _ hS).1; have q1 := (HCN.out _ hS).2.1; have q2 := (HCN.out _ hS).2.2; go_simp; with_reducible rfl
  · go_simp; with_reducible rfl
  refine wpK_one 5 rfl (by kernel_rfl) (fun K hK => ?_)
  have HKK := Lib.hid hK
  clear hK
  go_wp2
  refine HKK.out _ _ (fun _ hS => hS.trans ((below_new _ _).mono hS.size)) ?_
  refine wpK_one 6 rfl (by kernel_rfl) (fun K hK => ?_)
  have HKK := Lib.hid hK
  clear hK
  go_wp2_with fail
  refine HPN.out.mono ?_
  rintro e w9 ⟨rfl, h2, h3, h4⟩
  have H9 := Lib.hid (And.intro h2 (And.intro (HR.out.1.trans ((below_drew1 (Below.refl _ _)).trans h3)) (HR.out.2.trans ((kept_on (below_drew1 (Below.refl _ _))).trans h4))))
  clear h2 h3 h4
  go_wp2
  refine HKK.out _ _ (fun h => absurd h (by decide)) ?_
  refine wpK_end (by kernel_rfl) ?_ _
  go_wp2
  go_end0
  refine ⟨rfl, ?_, H9.out.2⟩
  have := H9.out.1
  rw [(HNM.out _ _).1, (HNM.out [] false).2] at this
  rw [HTX.out]
  exact this
end Go.Proofs.YtoopopjcojphaaaGreatDoor
/-
  show's WRITER, VI: bareTy, an arrow.
-/
namespace Go.Proofs.YtoopopjcojphaaaGreatDoor
open Go.ChangeShapes Go.WideShapes Go.ChangeAt Go.RowKit
set_option linter.unusedVariables false
set_option maxRecDepth 100000 in
set_option maxHeartbeats 4000000 in
theorem bare_arrow {w0 w : World} {P b o c b' o' M : Nat} {k n : Int} {s : ByteArray} {l : List Tt} {bs : List UInt8} {g : Bool} (hb0 : Below w0.heap.size w0 w) (h : WS w0.heap.size P w bs g) (hbb : b < w0.heap.size) (hN : Node w0 b o (.mk k n s l) (some ⟨b', o', none⟩) c) (hk : k ≠ 1) (hf : formedT (.mk k n s l) = true) (hs1 : s = ⟨#[45, 62]⟩) (hD : ∀ (i : Nat) (hi : i < l.length), TyDoes w0 P M l[i] b' (o' + i * 4)) (hM : bs.length + 70 + sumL (l.map partQ) ≤ M) (hM2 : M + sumL (l.map partQ) ≤ 90000000) :
    Calls Tryz.prog 80 #[.pointer (some ⟨P, 0, none⟩), .pointer (some ⟨b, o, none⟩)] w (Wrote w0.heap.size P w (bs ++ (sp g ++ txT vtQ (.mk k n s l))) false) := by
  have hg := (formed_node hf).1
  obtain ⟨_, hs32, _, _⟩ := formed_con hf hk
  have hs : s.size ≤ 1048576 := by omega
  have HNM : Hid (∀ bs g, putB bs g s = bs ++ (sp g ++ s.data.toList) ∧ putG' s = false) := Lib.hid fun bs g => put_name hg hk bs g
  have q1 : (k == 1) = false := by simpa using hk
  obtain ⟨w2, hw2, hba, hws, hbe, hke, hzz⟩ := bare_made hb0 h hN
  have hP := h.lt
  have HBA := Lib.hid hba
  have HWS := Lib.hid hws
  have HBK := Lib.hid (And.intro hbe hke)
  have HW2 := Lib.hid hw2
  have hzw := hb0.size
  have hcells := (Same.of_below (S := Lt w0.heap.size) hb0 (fun x hx => hx))
  obtain ⟨n0, n1, n2, n3⟩ := hN.keep hcells hbb
  have HZ : Hid (∀ W', Below w0.heap.size w2 W' → KeptW P w2 W' → W'.cell? ⟨w.heap.size, 0, none⟩ = some (.pointer (some ⟨P, 0, none⟩)) ∧ W'.cell? ⟨w.heap.size + 1, 0, none⟩ = some (.pointer (some ⟨b, o, none⟩)) ∧
      W'.cell? ⟨w.heap.size + 1 + 1, 0, none⟩ = some (.func (.func 89) #[] #[.pointer (some ⟨w.heap.size, 0, none⟩), .pointer (some ⟨w.heap.size + 1, 0, none⟩)]) ∧ W'.cell? ⟨b, o + 2, none⟩ = some (.string s) ∧ W'.cell? ⟨b, o + 3, none⟩ = some (.slice (some ⟨b', o', none⟩) l.length c)) := Lib.hid fun W' hb hk => by
    obtain ⟨z1, z2, z3, z4⟩ := (HBA.out.on hP hb hk).cells hbb
    exact ⟨z1, z2, z3, z4.2.2.1, z4.2.2.2⟩
  have HPT : Hid (∀ (i : Nat) (hi : i < l.length) (q : Nat), Parts w0.heap.size P w2 M 89 #[.int .i64 i, .int .i64 q, .pointer (some ⟨w.heap.size, 0, none⟩), .pointer (some ⟨w.heap.size + 1, 0, none⟩)] (wrK q (partQ l[i]))) := Lib.hid fun i hi q => HBA.out.part hP hbb hi (hD i hi) q
  obtain ⟨x, y, rfl⟩ : ∃ x y, l = [x, y] := by
    have := (formed_con hf hk).2.2.1 hs1
    match l, this with
    | [x, y], _ => exact ⟨x, y, rfl⟩
  have HTX : Hid (txT vtQ (.mk k n s [x, y]) = wrK 1 (partQ x) ++ ([32, 45, 62, 32] ++ wrK 0 (partQ y))) := Lib.hid (by rw [tx_con _ hk, hs1]; simp [conTx, partQ])
  have qa := str_yes hs1
  have hsum : sumL ([x, y].map partQ) = (partQ x).2.length + 5 + ((partQ y).2.length + 5) := by simp [sumL]
  rw [hsum] at hM hM2
  clear hs1
  have hw1 := wrK_len 1 (partQ x)
  have hspg := sp_len g
  have HC1 : Hid (Calls Tryz.prog 89 #[.int .i64 0, .int .i64 1, .pointer (some ⟨w.heap.size, 0, none⟩), .pointer (some ⟨w.heap.size + 1, 0, none⟩)] w2 (Wrote w0.heap.size P w2 (bs ++ (sp g ++ wrK 1 (partQ x))) false)) :=
    Lib.hid (HPT.out 0 (by simp) 1 w2 bs g (Below.refl _ _) (Lib.OthersKept.refl _ _ _) HWS.out (by omega))
  have HC2 : Hid (∀ W bs g, Below w0.heap.size w2 W → KeptW P w2 W → WS w0.heap.size P W bs g → bs.length ≤ M → Calls Tryz.prog 89 #[.int .i64 1, .int .i64 0, .pointer (some ⟨w.heap.size, 0, none⟩), .pointer (some ⟨w.heap.size + 1, 0, none⟩)] W (Wrote w0.heap.size P W (bs ++ (sp g ++ wrK 0 (partQ y))) false)) :=
    Lib.hid (HPT.out 1 (by simp) 0)
  clear hb0 h hN hba hws hbe hke hw2 hcells hf hg hk hD HPT hsum
  simp only [Tt.kind, Tt.num, Tt.name, Tt.args] at n0 n1 n2 n3
  have hbw : b < w.heap.size := by omega
  have hbw1 : b < w.heap.size + 1 := by omega
  have hbw2 : b < w.heap.size + 1 + 1 := by omega
  go_enter Tryz.func80, Tryz.ntmps80
  go_wp2_with fail
  rw [← HW2.out]
  refine HC1.out.mono ?_
  rintro e w3 ⟨rfl, h2, h3, h4⟩
  obtain ⟨q0, q1', q2, _⟩ := HZ.out w3 h3 h4
  have H3 := Lib.hid (And.intro h3 h4)
  have HP3 := Lib.hid (wput_tok h2 (by simp only [List.length_append]; omega) ⟨#[45, 62]⟩ (by decide))
  clear h2 h3 h4 HC1
  go_wp2_with fail
  refine HP3.out.mono ?_
  rintro e w4 ⟨rfl, h2, h3, h4⟩
  have h5 := H3.out.1.trans h3
  have h6 := H3.out.2.trans h4
  obtain ⟨q0, q1', q2, _⟩ := HZ.out w4 h5 h6
  rw [put_plain _ _ _ (by decide) (by decide) (by decide), putG_no (by decide) (by decide) (by decide)] at h2
  have H4 := Lib.hid (And.intro h5 h6)
  have HP4 := Lib.hid (HC2.out w4 _ _ h5 h6 h2 (by simp only [List.length_append]; have := sp_len false; simp; omega))
  clear h2 h3 h4 h5 h6 HC2 HP3
  go_wp2_with fail
  refine HP4.out.mono ?_
  rintro e w5 ⟨rfl, h2, h3, h4⟩
  have H5 := Lib.hid (And.intro h2 (And.intro (HBK.out.1.trans (H4.out.1.trans h3)) (HBK.out.2.trans (H4.out.2.trans h4))))
  clear h2 h3 h4
  go_wp2
  go_end0
  refine ⟨rfl, ?_, H5.out.2⟩
  rw [HTX.out]
  have := H5.out.1
  simpa [sp] using this
end Go.Proofs.YtoopopjcojphaaaGreatDoor
/-
  show's WRITER, VII: bareTy, a product.
-/
namespace Go.Proofs.YtoopopjcojphaaaGreatDoor
open Go.ChangeShapes Go.WideShapes Go.ChangeAt Go.RowKit
set_option linter.unusedVariables false
set_option maxRecDepth 100000 in
set_option maxHeartbeats 4000000 in
theorem bare_star {w0 w : World} {P b o c b' o' M : Nat} {k n : Int} {s : ByteArray} {l : List Tt} {bs : List UInt8} {g : Bool} (hb0 : Below w0.heap.size w0 w) (h : WS w0.heap.size P w bs g) (hbb : b < w0.heap.size) (hN : Node w0 b o (.mk k n s l) (some ⟨b', o', none⟩) c) (hk : k ≠ 1) (hf : formedT (.mk k n s l) = true) (hs1 : s = ⟨#[42]⟩) (hD : ∀ (i : Nat) (hi : i < l.length), TyDoes w0 P M l[i] b' (o' + i * 4)) (hM : bs.length + 70 + sumL (l.map partQ) ≤ M) (hM2 : M + sumL (l.map partQ) ≤ 90000000) (hlen : l.length ≤ 1048576) :
    Calls Tryz.prog 80 #[.pointer (some ⟨P, 0, none⟩), .pointer (some ⟨b, o, none⟩)] w (Wrote w0.heap.size P w (bs ++ (sp g ++ txT vtQ (.mk k n s l))) false) := by
  have hg := (formed_node hf).1
  obtain ⟨_, hs32, _, _⟩ := formed_con hf hk
  have hs : s.size ≤ 1048576 := by omega
  have HNM : Hid (∀ bs g, putB bs g s = bs ++ (sp g ++ s.data.toList) ∧ putG' s = false) := Lib.hid fun bs g => put_name hg hk bs g
  have q1 : (k == 1) = false := by simpa using hk
  have HLN := Lib.hid hlen
  have hl2 : 2 ≤ l.length := (formed_con hf hk).2.2.2 hs1
  have hne : l.map partQ ≠ [] := fun e => by rw [List.map_eq_nil_iff] at e; rw [e] at hl2; simp at hl2
  have HTX : Hid (txT vtQ (.mk k n s l) = joinW [32, 42, 32] 2 (l.map partQ)) := Lib.hid (by
    rw [tx_con _ hk, hs1]
    show conTx _ (l.map partQ) = _
    unfold conTx
    rw [if_neg hne, if_neg (by decide), if_pos rfl])
  have qa := str_no (show s ≠ ⟨#[45, 62]⟩ by rw [hs1]; decide)
  have qb := str_yes hs1
  clear hs1
  obtain ⟨w2, hw2, hba, hws, hbe, hke, hzz⟩ := bare_made hb0 h hN
  have hP := h.lt
  have HBA := Lib.hid hba
  have HWS := Lib.hid hws
  have HBK := Lib.hid (And.intro hbe hke)
  have HW2 := Lib.hid hw2
  have hzw := hb0.size
  have hcells := (Same.of_below (S := Lt w0.heap.size) hb0 (fun x hx => hx))
  obtain ⟨n0, n1, n2, n3⟩ := hN.keep hcells hbb
  have HZ : Hid (∀ W', Below w0.heap.size w2 W' → KeptW P w2 W' → W'.cell? ⟨w.heap.size, 0, none⟩ = some (.pointer (some ⟨P, 0, none⟩)) ∧ W'.cell? ⟨w.heap.size + 1, 0, none⟩ = some (.pointer (some ⟨b, o, none⟩)) ∧
      W'.cell? ⟨w.heap.size + 1 + 1, 0, none⟩ = some (.func (.func 89) #[] #[.pointer (some ⟨w.heap.size, 0, none⟩), .pointer (some ⟨w.heap.size + 1, 0, none⟩)]) ∧ W'.cell? ⟨b, o + 2, none⟩ = some (.string s) ∧ W'.cell? ⟨b, o + 3, none⟩ = some (.slice (some ⟨b', o', none⟩) l.length c)) := Lib.hid fun W' hb hk => by
    obtain ⟨z1, z2, z3, z4⟩ := (HBA.out.on hP hb hk).cells hbb
    exact ⟨z1, z2, z3, z4.2.2.1, z4.2.2.2⟩
  have HPT : Hid (∀ (i : Nat) (hi : i < l.length) (q : Nat), Parts w0.heap.size P w2 M 89 #[.int .i64 i, .int .i64 q, .pointer (some ⟨w.heap.size, 0, none⟩), .pointer (some ⟨w.heap.size + 1, 0, none⟩)] (wrK q (partQ l[i]))) := Lib.hid fun i hi q => HBA.out.part hP hbb hi (hD i hi) q
  have HPJ : Hid (∀ (j : Nat) (hj : j < (l.map partQ).length), Parts w0.heap.size P w2.drew M 92 (#[.int .i64 j] ++ #[.pointer (some ⟨w.heap.size + 1 + 1, 0, none⟩)]) (wrK 2 (l.map partQ)[j])) := Lib.hid fun j hj => by
    have hj' : j < l.length := by simpa using hj
    rw [show (l.map partQ)[j] = partQ l[j] by simp]
    exact (bare2_any hba.c4 (by omega) (HPT.out j hj' 2)).on (below_drew1 (Below.refl _ _)) (kept_on (below_drew1 (Below.refl _ _)))
  have HCL : Hid (Calls Tryz.prog 91 #[.pointer (some ⟨P, 0, none⟩), .int .i64 l.length, .string ⟨#[42]⟩, .func (.func 92) #[] #[.pointer (some ⟨w.heap.size + 1 + 1, 0, none⟩)]] w2.drew fun e w' => e = .returned (.tuple #[]) ∧ WS w0.heap.size P w' (bs ++ (sp g ++ joinW [32, 42, 32] 2 (l.map partQ))) false ∧ Below w0.heap.size w2 w' ∧ KeptW P w2 w') := Lib.hid (by
    have := wlist_any (F := 92) (fun args w => by kernel_rfl) (HWS.out.on (below_drew1 (Below.refl _ _))) 2 (l.map partQ) ⟨#[42]⟩ [32, 42, 32] (by decide) (by decide)
      (fun bs => by rw [put_plain _ _ _ (by decide) (by decide) (by decide)]; simp [sp]) (putG_no (by decide) (by decide) (by decide)) (by rw [List.length_map]; have := HLN.out; omega) (M := M) (by omega) (by omega) HPJ.out
    rw [List.length_map] at this
    refine this.mono ?_
    rintro e w' ⟨h1, h2, h3, h4⟩
    exact ⟨h1, h2 hne, (below_drew1 (Below.refl _ _)).trans h3, (kept_on (below_drew1 (Below.refl _ _))).trans h4⟩)
  have HCE : Hid (∀ W', Below w2.heap.size w2 W' → W'.cell? ⟨w.heap.size, 0, none⟩ = some (.pointer (some ⟨P, 0, none⟩)) ∧ W'.cell? ⟨w.heap.size + 1, 0, none⟩ = some (.pointer (some ⟨b, o, none⟩)) ∧ W'.cell? ⟨b, o + 3, none⟩ = some (.slice (some ⟨b', o', none⟩) l.length c)) := Lib.hid fun W' hW => by
    have z := HZ.out W' (hW.mono HWS.out.2.1) (kept_on hW)
    exact ⟨z.1, z.2.1, z.2.2.2.2⟩
  clear hb0 h hN hba hws hbe hke hw2 hcells hf hg hk hD HPT HPJ
  simp only [Tt.kind, Tt.num, Tt.name, Tt.args] at n0 n1 n2 n3
  have hbw : b < w.heap.size := by omega
  have hbw1 : b < w.heap.size + 1 := by omega
  have hbw2 : b < w.heap.size + 1 + 1 := by omega
  go_enter Tryz.func80, Tryz.ntmps80
  go_upto_region 9 with fail
  rw [← HW2.out]
  refine wp_region_K (fun w' => Below w2.heap.size w2 w') (fun j => j != 7) (by kernel_rfl) ?_
  refine wpK_take (v := ?_) (a' := ?_) 0 rfl (by kernel_rfl) (by kernel_rfl) (by kernel_rfl) (by kernel_rfl) (by kernel_rfl) (fun _ _ _ h => h) (below_drew1 (Below.refl _ _)) ?_ ?_ ?_
  rotate_left 2
  · refine .inl ⟨by kernel_rfl, ?_⟩; intro wS hS; have q0 := (HCE.out _ hS).1; have q1 := (HCE.out _ hS).2.1; have q2 := (HCE.out _ hS).2.2; go_simp; with_reducible rfl
  · go_simp; with_reducible rfl
  refine wpK_take (v := ?_) (a' := ?_) 1 rfl (by kernel_rfl) (by kernel_rfl) (by kernel_rfl) (by kernel_rfl) (by kernel_rfl) (fun _ _ _ h => h) (below_drew1 (Below.refl _ _)) ?_ ?_ ?_
  rotate_left 2
  · refine .inl ⟨by kernel_rfl, ?_⟩; intro wS hS; have q0 := (HCE.out _ hS).1; have q1 := (HCE.out _ hS).2.1; have q2 := (HCE.out _ hS).2.2; go_simp; with_reducible rfl
  · go_simp; with_reducible rfl
  refine wpK_take0 (v := ?_) (a' := ?_) 2 rfl (by kernel_rfl) (by kernel_rfl) (by kernel_rfl) (by kernel_rfl) (fun _ _ _ h => h) ?_ ?_ ?_
  rotate_left 2
  · refine .inl ⟨by kernel_rfl, ?_⟩; intro wS hS; clear hS; go_simp; with_reducible rfl
  · go_simp; with_reducible rfl
  refine wpK_take0 (v := ?_) (a' := ?_) 3 rfl (by kernel_rfl) (by kernel_rfl) (by kernel_rfl) (by kernel_rfl) (fun _ _ _ h => h) ?_ ?_ ?_
  rotate_left 2
  · refine .inl ⟨by kernel_rfl, ?_⟩; intro wS hS; clear hS; go_simp; with_reducible rfl
  · go_simp; with_reducible rfl
  refine wpK_take (v := ?_) (a' := ?_) 4 rfl (by kernel_rfl) (by kernel_rfl) (by kernel_rfl) (by kernel_rfl) (by kernel_rfl) (fun _ _ _ h => h) (below_drew1 (Below.refl _ _)) ?_ ?_ ?_
  rotate_left 2
  · refine .inl ⟨by kernel_rfl, ?_⟩; intro wS hS; have q0 := (HCE.out _ hS).1; have q1 := (HCE.out _ hS).2.1; have q2 := (HCE.out _ hS).2.2; go_simp; with_reducible rfl
  · go_simp; with_reducible rfl
  refine wpK_take0 (v := ?_) (a' := ?_) 5 rfl (by kernel_rfl) (by kernel_rfl) (by kernel_rfl) (by kernel_rfl) (fun _ _ _ h => h) ?_ ?_ ?_
  rotate_left 2
  · refine .inl ⟨by kernel_rfl, ?_⟩; intro wS hS; clear hS; go_simp; with_reducible rfl
  · go_simp; with_reducible rfl
  refine wpK_take0 (v := ?_) (a' := ?_) 6 rfl (by kernel_rfl) (by kernel_rfl) (by kernel_rfl) (by kernel_rfl) (fun _ _ _ h => h) ?_ ?_ ?_
  rotate_left 2
  · refine .inl ⟨by kernel_rfl, ?_⟩; intro wS hS; clear hS; go_simp; with_reducible rfl
  · go_simp; with_reducible rfl
  refine wpK_one 7 rfl (by kernel_rfl) (fun K hK => ?_)
  have HKK := Lib.hid hK
  clear hK
  go_wp2_with fail
  refine HCL.out.mono ?_
  rintro e w3 ⟨rfl, h2, h3, h4⟩
  have H5 := Lib.hid (And.intro h2 (And.intro (HBK.out.1.trans h3) (HBK.out.2.trans h4)))
  clear h2 h3 h4
  go_wp2
  refine HKK.out _ _ (fun h => absurd h (by decide)) ?_
  refine wpK_end (by kernel_rfl) ?_ _
  go_wp2
  go_end0
  refine ⟨rfl, ?_, H5.out.2⟩
  rw [HTX.out]
  exact H5.out.1
end Go.Proofs.YtoopopjcojphaaaGreatDoor
/-
  show's WRITER, VIII: bareTy, a name with arguments.
-/
namespace Go.Proofs.YtoopopjcojphaaaGreatDoor
open Go.ChangeShapes Go.WideShapes Go.ChangeAt Go.RowKit
set_option linter.unusedVariables false
set_option maxRecDepth 100000 in
set_option maxHeartbeats 4000000 in
theorem bare_one {w0 w : World} {P b o c b' o' M : Nat} {k n : Int} {s : ByteArray} {l : List Tt} {bs : List UInt8} {g : Bool} (hb0 : Below w0.heap.size w0 w) (h : WS w0.heap.size P w bs g) (hbb : b < w0.heap.size) (hN : Node w0 b o (.mk k n s l) (some ⟨b', o', none⟩) c) (hk : k ≠ 1) (hf : formedT (.mk k n s l) = true) (ha1 : s ≠ ⟨#[45, 62]⟩) (ha2 : s ≠ ⟨#[42]⟩) (hl1 : l.length = 1) (hD : ∀ (i : Nat) (hi : i < l.length), TyDoes w0 P M l[i] b' (o' + i * 4)) (hM : bs.length + 70 + sumL (l.map partQ) ≤ M) (hM2 : M + sumL (l.map partQ) ≤ 90000000) :
    Calls Tryz.prog 80 #[.pointer (some ⟨P, 0, none⟩), .pointer (some ⟨b, o, none⟩)] w (Wrote w0.heap.size P w (bs ++ (sp g ++ txT vtQ (.mk k n s l))) false) := by
  have hg := (formed_node hf).1
  obtain ⟨_, hs32, _, _⟩ := formed_con hf hk
  have hs : s.size ≤ 1048576 := by omega
  have HNM : Hid (∀ bs g, putB bs g s = bs ++ (sp g ++ s.data.toList) ∧ putG' s = false) := Lib.hid fun bs g => put_name hg hk bs g
  have q1 : (k == 1) = false := by simpa using hk
  have qa := str_no ha1
  have qb := str_no ha2
  obtain ⟨w2, hw2, hba, hws, hbe, hke, hzz⟩ := bare_made hb0 h hN
  have hP := h.lt
  have HBA := Lib.hid hba
  have HWS := Lib.hid hws
  have HBK := Lib.hid (And.intro hbe hke)
  have HW2 := Lib.hid hw2
  have hzw := hb0.size
  have hcells := (Same.of_below (S := Lt w0.heap.size) hb0 (fun x hx => hx))
  obtain ⟨n0, n1, n2, n3⟩ := hN.keep hcells hbb
  have HZ : Hid (∀ W', Below w0.heap.size w2 W' → KeptW P w2 W' → W'.cell? ⟨w.heap.size, 0, none⟩ = some (.pointer (some ⟨P, 0, none⟩)) ∧ W'.cell? ⟨w.heap.size + 1, 0, none⟩ = some (.pointer (some ⟨b, o, none⟩)) ∧
      W'.cell? ⟨w.heap.size + 1 + 1, 0, none⟩ = some (.func (.func 89) #[] #[.pointer (some ⟨w.heap.size, 0, none⟩), .pointer (some ⟨w.heap.size + 1, 0, none⟩)]) ∧ W'.cell? ⟨b, o + 2, none⟩ = some (.string s) ∧ W'.cell? ⟨b, o + 3, none⟩ = some (.slice (some ⟨b', o', none⟩) l.length c)) := Lib.hid fun W' hb hk => by
    obtain ⟨z1, z2, z3, z4⟩ := (HBA.out.on hP hb hk).cells hbb
    exact ⟨z1, z2, z3, z4.2.2.1, z4.2.2.2⟩
  have HPT : Hid (∀ (i : Nat) (hi : i < l.length) (q : Nat), Parts w0.heap.size P w2 M 89 #[.int .i64 i, .int .i64 q, .pointer (some ⟨w.heap.size, 0, none⟩), .pointer (some ⟨w.heap.size + 1, 0, none⟩)] (wrK q (partQ l[i]))) := Lib.hid fun i hi q => HBA.out.part hP hbb hi (hD i hi) q
  obtain ⟨x, rfl⟩ : ∃ x, l = [x] := List.length_eq_one_iff.1 hl1
  have HTX : Hid (txT vtQ (.mk k n s [x]) = wrK 2 (partQ x) ++ ([32] ++ s.data.toList)) := Lib.hid (by
    rw [tx_con _ hk]
    show conTx _ [partQ x] = _
    unfold conTx
    rw [if_neg (by simp), if_neg ha1, if_neg ha2, if_pos (by simp)]; simp)
  have hsum : sumL ([x].map partQ) = (partQ x).2.length + 5 := by simp [sumL]
  rw [hsum] at hM hM2
  have hw1 := wrK_len 2 (partQ x)
  have hspg := sp_len g
  have HC1 : Hid (Calls Tryz.prog 89 #[.int .i64 0, .int .i64 2, .pointer (some ⟨w.heap.size, 0, none⟩), .pointer (some ⟨w.heap.size + 1, 0, none⟩)] w2 (Wrote w0.heap.size P w2 (bs ++ (sp g ++ wrK 2 (partQ x))) false)) :=
    Lib.hid (HPT.out 0 (by simp) 2 w2 bs g (Below.refl _ _) (Lib.OthersKept.refl _ _ _) HWS.out (by omega))
  clear hb0 h hN hba hws hbe hke hw2 hcells hf hg hk hD HPT hsum ha1 ha2 hl1
  simp only [List.length_singleton] at HZ
  simp only [Tt.kind, Tt.num, Tt.name, Tt.args, List.length_singleton] at n0 n1 n2 n3
  have hbw : b < w.heap.size := by omega
  have hbw1 : b < w.heap.size + 1 := by omega
  have hbw2 : b < w.heap.size + 1 + 1 := by omega
  go_enter Tryz.func80, Tryz.ntmps80
  go_wp2_with fail
  rw [← HW2.out]
  refine HC1.out.mono ?_
  rintro e w3 ⟨rfl, h2, h3, h4⟩
  obtain ⟨q0, q1', q2, q3, q4⟩ := HZ.out w3 h3 h4
  have HQ := Lib.hid h2
  have HR := Lib.hid (And.intro (HBK.out.1.trans h3) (HBK.out.2.trans h4))
  have HR2 := Lib.hid (And.intro h3 h4)
  have hlq : (bs ++ (sp g ++ wrK 2 (partQ x))).length ≤ 100000000 := by simp only [List.length_append]; omega
  clear h2 h3 h4 HC1
  have HCN : Hid (∀ W', Below w3.heap.size w3 W' → W'.cell? ⟨w.heap.size, 0, none⟩ = some (.pointer (some ⟨P, 0, none⟩)) ∧ W'.cell? ⟨w.heap.size + 1, 0, none⟩ = some (.pointer (some ⟨b, o, none⟩)) ∧ W'.cell? ⟨b, o + 2, none⟩ = some (.string s)) := Lib.hid fun W' hW => by
    have z := HZ.out W' (HR2.out.1.trans (hW.mono HQ.out.2.1)) (HR2.out.2.trans (kept_on hW))
    exact ⟨z.1, z.2.1, z.2.2.2.1⟩
  have HPN := Lib.hid (wput_tok (HQ.out.on (below_drew1 (Below.refl _ _))) hlq s hs)
  go_wp2
  refine wp_region_K (fun w' => Below w3.heap.size w3 w') (fun j => j != 6) (by kernel_rfl) ?_
  refine wpK_take (v := ?_) (a' := ?_) 0 rfl (by kernel_rfl) (by kernel_rfl) (by kernel_rfl) (by kernel_rfl) (by kernel_rfl) (fun _ _ _ h => h) (below_drew1 (Below.refl _ _)) ?_ ?_ ?_
  rotate_left 2
  · refine .inl ⟨by kernel_rfl, ?_⟩; intro wS hS; have q0 := (HCN.out _ hS).1; have q1 := (HCN.out _ hS).2.1; have q2 := (HCN.out _ hS).2.2; go_simp; with_reducible rfl
  · go_simp; with_reducible rfl
  refine wpK_take (v := ?_) (a' := ?_) 1 rfl (by kernel_rfl) (by kernel_rfl) (by kernel_rfl) (by kernel_rfl) (by kernel_rfl) (fun _ _ _ h => h) (below_drew1 (Below.refl _ _)) ?_ ?_ ?_
  rotate_left 2
  · refine .inl ⟨by kernel_rfl, ?_⟩; intro wS hS; have q0 := (HCN.out _ hS).1; have q1 := (HCN.out _ hS).2.1; have q2 := (HCN.out _ hS).2.2; go_simp; with_reducible rfl
  · go_simp; with_reducible rfl
  refine wpK_take0 (v := ?_) (a' := ?_) 2 rfl (by kernel_rfl) (by kernel_rfl) (by kernel_rfl) (by kernel_rfl) (fun _ _ _ h => h) ?_ ?_ ?_
  rotate_left 2
  · refine .inl ⟨by kernel_rfl, ?_⟩; intro wS hS; clear hS; go_simp; with_reducible rfl
  · go_simp; with_reducible rfl
  refine wpK_take0 (v := ?_) (a' := ?_) 3 rfl (by kernel_rfl) (by kernel_rfl) (by kernel_rfl) (by kernel_rfl) (fun _ _ _ h => h) ?_ ?_ ?_
  rotate_left 2
  · refine .inl ⟨by kernel_rfl, ?_⟩; intro wS hS; clear hS; go_simp; with_reducible rfl
  · go_simp; with_reducible rfl
  refine wpK_take (v := ?_) (a' := ?_) 4 rfl (by kernel_rfl) (by kernel_rfl) (by kernel_rfl) (by kernel_rfl) (by kernel_rfl) (fun _ _ _ h => h) (below_drew1 (Below.refl _ _)) ?_ ?_ ?_
  rotate_left 2
  · refine .inl ⟨by kernel_rfl, ?_⟩; intro wS hS; have q0 := (HCN.out _ hS).1; have q1 := (HCN.out _ hS).2.1; have q2 := (HCN.out _ hS).2.2; go_simp; with_reducible rfl
  · go_simp; with_reducible rfl
  refine wpK_one 5 rfl (by kernel_rfl) (fun K hK => ?_)
  have HKK := Lib.hid hK
  clear hK
  go_wp2
  refine HKK.out _ _ (fun _ hS => hS.trans ((below_new _ _).mono hS.size)) ?_
  refine wpK_one 6 rfl (by kernel_rfl) (fun K hK => ?_)
  have HKK := Lib.hid hK
  clear hK
  go_wp2_with fail
  refine HPN.out.mono ?_
  rintro e w9 ⟨rfl, h2, h3, h4⟩
  have H9 := Lib.hid (And.intro h2 (And.intro (HR.out.1.trans ((below_drew1 (Below.refl _ _)).trans h3)) (HR.out.2.trans ((kept_on (below_drew1 (Below.refl _ _))).trans h4))))
  clear h2 h3 h4
  go_wp2
  refine HKK.out _ _ (fun h => absurd h (by decide)) ?_
  refine wpK_end (by kernel_rfl) ?_ _
  go_wp2
  go_end0
  refine ⟨rfl, ?_, H9.out.2⟩
  have := H9.out.1
  rw [(HNM.out _ _).1, (HNM.out [] false).2] at this
  rw [HTX.out]
  simpa [sp] using this
set_option maxRecDepth 100000 in
set_option maxHeartbeats 4000000 in
theorem bare_more {w0 w : World} {P b o c b' o' M : Nat} {k n : Int} {s : ByteArray} {l : List Tt} {bs : List UInt8} {g : Bool} (hb0 : Below w0.heap.size w0 w) (h : WS w0.heap.size P w bs g) (hbb : b < w0.heap.size) (hN : Node w0 b o (.mk k n s l) (some ⟨b', o', none⟩) c) (hk : k ≠ 1) (hf : formedT (.mk k n s l) = true) (ha1 : s ≠ ⟨#[45, 62]⟩) (ha2 : s ≠ ⟨#[42]⟩) (hl1 : 1 < l.length) (hD : ∀ (i : Nat) (hi : i < l.length), TyDoes w0 P M l[i] b' (o' + i * 4)) (hM : bs.length + 70 + sumL (l.map partQ) ≤ M) (hM2 : M + sumL (l.map partQ) ≤ 90000000) (hlen : l.length ≤ 1048576) :
    Calls Tryz.prog 80 #[.pointer (some ⟨P, 0, none⟩), .pointer (some ⟨b, o, none⟩)] w (Wrote w0.heap.size P w (bs ++ (sp g ++ txT vtQ (.mk k n s l))) false) := by
  have hg := (formed_node hf).1
  obtain ⟨_, hs32, _, _⟩ := formed_con hf hk
  have hs : s.size ≤ 1048576 := by omega
  have HNM : Hid (∀ bs g, putB bs g s = bs ++ (sp g ++ s.data.toList) ∧ putG' s = false) := Lib.hid fun bs g => put_name hg hk bs g
  have q1 : (k == 1) = false := by simpa using hk
  have HLN := Lib.hid hlen
  have qa := str_no ha1
  have qb := str_no ha2
  have hne : l.map partQ ≠ [] := fun e => by rw [List.map_eq_nil_iff] at e; rw [e] at hl1; simp at hl1
  have HTX : Hid (txT vtQ (.mk k n s l) = wrapL true (joinW [44, 32] 0 (l.map partQ)) ++ ([32] ++ s.data.toList)) := Lib.hid (by
    rw [tx_con _ hk]
    show conTx _ (l.map partQ) = _
    unfold conTx
    rw [if_neg hne, if_neg ha1, if_neg ha2, if_neg (by rw [List.length_map]; omega)]; simp [wrapL])
  have hjl := join_len [44, 32] 0 (by decide) (l.map partQ)
  have hspg := sp_len g
  have ql : ((l.length : Int) == 1) = false := by simp; omega
  have ql2 : (1 : Int) < l.length := by omega
  obtain ⟨w2, hw2, hba, hws, hbe, hke, hzz⟩ := bare_made hb0 h hN
  have hP := h.lt
  have HBA := Lib.hid hba
  have HWS := Lib.hid hws
  have HBK := Lib.hid (And.intro hbe hke)
  have HW2 := Lib.hid hw2
  have hzw := hb0.size
  have hcells := (Same.of_below (S := Lt w0.heap.size) hb0 (fun x hx => hx))
  obtain ⟨n0, n1, n2, n3⟩ := hN.keep hcells hbb
  have HZ : Hid (∀ W', Below w0.heap.size w2 W' → KeptW P w2 W' → W'.cell? ⟨w.heap.size, 0, none⟩ = some (.pointer (some ⟨P, 0, none⟩)) ∧ W'.cell? ⟨w.heap.size + 1, 0, none⟩ = some (.pointer (some ⟨b, o, none⟩)) ∧
      W'.cell? ⟨w.heap.size + 1 + 1, 0, none⟩ = some (.func (.func 89) #[] #[.pointer (some ⟨w.heap.size, 0, none⟩), .pointer (some ⟨w.heap.size + 1, 0, none⟩)]) ∧ W'.cell? ⟨b, o + 2, none⟩ = some (.string s) ∧ W'.cell? ⟨b, o + 3, none⟩ = some (.slice (some ⟨b', o', none⟩) l.length c)) := Lib.hid fun W' hb hk => by
    obtain ⟨z1, z2, z3, z4⟩ := (HBA.out.on hP hb hk).cells hbb
    exact ⟨z1, z2, z3, z4.2.2.1, z4.2.2.2⟩
  have HPT : Hid (∀ (i : Nat) (hi : i < l.length) (q : Nat), Parts w0.heap.size P w2 M 89 #[.int .i64 i, .int .i64 q, .pointer (some ⟨w.heap.size, 0, none⟩), .pointer (some ⟨w.heap.size + 1, 0, none⟩)] (wrK q (partQ l[i]))) := Lib.hid fun i hi q => HBA.out.part hP hbb hi (hD i hi) q
  have HPJ : Hid (∀ (j : Nat) (hj : j < (l.map partQ).length), Parts w0.heap.size P w2.drew M 94 (#[.int .i64 j] ++ #[.pointer (some ⟨w.heap.size + 1 + 1, 0, none⟩)]) (wrK 0 (l.map partQ)[j])) := Lib.hid fun j hj => by
    have hj' : j < l.length := by simpa using hj
    rw [show (l.map partQ)[j] = partQ l[j] by simp]
    exact (bare3_any hba.c4 (by omega) (HPT.out j hj' 0)).on (below_drew1 (Below.refl _ _)) (kept_on (below_drew1 (Below.refl _ _)))
  have HCL : Hid (Calls Tryz.prog 93 #[.pointer (some ⟨P, 0, none⟩), .int .i64 l.length, .string ⟨#[44]⟩, .func (.func 94) #[] #[.pointer (some ⟨w.heap.size + 1 + 1, 0, none⟩)]] w2.drew (Wrote w0.heap.size P w2.drew (bs ++ (sp g ++ wrapL true (joinW [44, 32] 0 (l.map partQ)))) false)) := Lib.hid (by
    have := wtuple_any (F := 94) (fun args w => by kernel_rfl) (HWS.out.on (below_drew1 (Below.refl _ _))) 0 (l.map partQ) hne (by rw [List.length_map]; have := HLN.out; omega) (M := M) (by omega) (by omega) HPJ.out
    rw [List.length_map] at this
    exact this)
  have HCE : Hid (∀ W', Below w2.heap.size w2 W' → W'.cell? ⟨w.heap.size, 0, none⟩ = some (.pointer (some ⟨P, 0, none⟩)) ∧ W'.cell? ⟨w.heap.size + 1, 0, none⟩ = some (.pointer (some ⟨b, o, none⟩)) ∧ W'.cell? ⟨b, o + 3, none⟩ = some (.slice (some ⟨b', o', none⟩) l.length c)) := Lib.hid fun W' hW => by
    have z := HZ.out W' (hW.mono HWS.out.2.1) (kept_on hW)
    exact ⟨z.1, z.2.1, z.2.2.2.2⟩
  clear hb0 h hN hba hws hbe hke hw2 hcells hf hg hk hD HPT HPJ ha1 ha2 hl1
  simp only [Tt.kind, Tt.num, Tt.name, Tt.args] at n0 n1 n2 n3
  have hbw : b < w.heap.size := by omega
  have hbw1 : b < w.heap.size + 1 := by omega
  have hbw2 : b < w.heap.size + 1 + 1 := by omega
  go_enter Tryz.func80, Tryz.ntmps80
  go_upto_region 13 with fail
  rw [← HW2.out]
  refine wp_region_K (fun w' => Below w2.heap.size w2 w') (fun j => j != 7) (by kernel_rfl) ?_
  refine wpK_take (v := ?_) (a' := ?_) 0 rfl (by kernel_rfl) (by kernel_rfl) (by kernel_rfl) (by kernel_rfl) (by kernel_rfl) (fun _ _ _ h => h) (below_drew1 (Below.refl _ _)) ?_ ?_ ?_
  rotate_left 2
  · refine .inl ⟨by kernel_rfl, ?_⟩; intro wS hS; have q0 := (HCE.out _ hS).1; have q1 := (HCE.out _ hS).2.1; have q2 := (HCE.out _ hS).2.2; go_simp; with_reducible rfl
  · go_simp; with_reducible rfl
  refine wpK_take (v := ?_) (a' := ?_) 1 rfl (by kernel_rfl) (by kernel_rfl) (by kernel_rfl) (by kernel_rfl) (by kernel_rfl) (fun _ _ _ h => h) (below_drew1 (Below.refl _ _)) ?_ ?_ ?_
  rotate_left 2
  · refine .inl ⟨by kernel_rfl, ?_⟩; intro wS hS; have q0 := (HCE.out _ hS).1; have q1 := (HCE.out _ hS).2.1; have q2 := (HCE.out _ hS).2.2; go_simp; with_reducible rfl
  · go_simp; with_reducible rfl
  refine wpK_take0 (v := ?_) (a' := ?_) 2 rfl (by kernel_rfl) (by kernel_rfl) (by kernel_rfl) (by kernel_rfl) (fun _ _ _ h => h) ?_ ?_ ?_
  rotate_left 2
  · refine .inl ⟨by kernel_rfl, ?_⟩; intro wS hS; clear hS; go_simp; with_reducible rfl
  · go_simp; with_reducible rfl
  refine wpK_take0 (v := ?_) (a' := ?_) 3 rfl (by kernel_rfl) (by kernel_rfl) (by kernel_rfl) (by kernel_rfl) (fun _ _ _ h => h) ?_ ?_ ?_
  rotate_left 2
  · refine .inl ⟨by kernel_rfl, ?_⟩; intro wS hS; clear hS; go_simp; with_reducible rfl
  · go_simp; with_reducible rfl
  refine wpK_take (v := ?_) (a' := ?_) 4 rfl (by kernel_rfl) (by kernel_rfl) (by kernel_rfl) (by kernel_rfl) (by kernel_rfl) (fun _ _ _ h => h) (below_drew1 (Below.refl _ _)) ?_ ?_ ?_
  rotate_left 2
  · refine .inl ⟨by kernel_rfl, ?_⟩; intro wS hS; have q0 := (HCE.out _ hS).1; have q1 := (HCE.out _ hS).2.1; have q2 := (HCE.out _ hS).2.2; go_simp; with_reducible rfl
  · go_simp; with_reducible rfl
  refine wpK_take0 (v := ?_) (a' := ?_) 5 rfl (by kernel_rfl) (by kernel_rfl) (by kernel_rfl) (by kernel_rfl) (fun _ _ _ h => h) ?_ ?_ ?_
  rotate_left 2
  · refine .inl ⟨by kernel_rfl, ?_⟩; intro wS hS; clear hS; go_simp; with_reducible rfl
  · go_simp; with_reducible rfl
  refine wpK_take0 (v := ?_) (a' := ?_) 6 rfl (by kernel_rfl) (by kernel_rfl) (by kernel_rfl) (by kernel_rfl) (fun _ _ _ h => h) ?_ ?_ ?_
  rotate_left 2
  · refine .inl ⟨by kernel_rfl, ?_⟩; intro wS hS; clear hS; go_simp; with_reducible rfl
  · go_simp; with_reducible rfl
  refine wpK_one 7 rfl (by kernel_rfl) (fun K hK => ?_)
  have HKK := Lib.hid hK
  clear hK
  go_wp2_with fail
  refine HCL.out.mono ?_
  rintro e w3 ⟨rfl, h2, h3, h4⟩
  have h5 := (below_drew1 (Below.refl w0.heap.size w2)).trans h3
  have h6 := (kept_on (P := P) (below_drew1 (Below.refl w2.heap.size w2))).trans h4
  have HQ := Lib.hid h2
  have HR := Lib.hid (And.intro (HBK.out.1.trans h5) (HBK.out.2.trans h6))
  have HR2 := Lib.hid (And.intro h5 h6)
  have hlq : (bs ++ (sp g ++ wrapL true (joinW [44, 32] 0 (l.map partQ)))).length ≤ 100000000 := by simp only [List.length_append, wrapL, if_true, List.length_singleton]; omega
  clear h2 h3 h4 h5 h6
  go_wp2
  refine HKK.out _ _ (fun h => absurd h (by decide)) ?_
  refine wpK_end (by kernel_rfl) ?_ _
  have HCN : Hid (∀ W', Below w3.heap.size w3 W' → W'.cell? ⟨w.heap.size, 0, none⟩ = some (.pointer (some ⟨P, 0, none⟩)) ∧ W'.cell? ⟨w.heap.size + 1, 0, none⟩ = some (.pointer (some ⟨b, o, none⟩)) ∧ W'.cell? ⟨b, o + 2, none⟩ = some (.string s)) := Lib.hid fun W' hW => by
    have z := HZ.out W' (HR2.out.1.trans (hW.mono HQ.out.2.1)) (HR2.out.2.trans (kept_on hW))
    exact ⟨z.1, z.2.1, z.2.2.2.1⟩
  have HPN := Lib.hid (wput_tok (HQ.out.on (below_drew1 (Below.refl _ _))) hlq s hs)
  go_wp2
  refine wp_region_K (fun w' => Below w3.heap.size w3 w') (fun j => j != 6) (by kernel_rfl) ?_
  refine wpK_take (v := ?_) (a' := ?_) 0 rfl (by kernel_rfl) (by kernel_rfl) (by kernel_rfl) (by kernel_rfl) (by kernel_rfl) (fun _ _ _ h => h) (below_drew1 (Below.refl _ _)) ?_ ?_ ?_
  rotate_left 2
  · refine .inl ⟨by kernel_rfl, ?_⟩; intro wS hS; have q0 := (HCN.out _ hS).1; have q1 := (HCN.out _ hS).2.1; have q2 := (HCN.out _ hS).2.2; go_simp; with_reducible rfl
  · go_simp; with_reducible rfl
  refine wpK_take (v := ?_) (a' := ?_) 1 rfl (by kernel_rfl) (by kernel_rfl) (by kernel_rfl) (by kernel_rfl) (by kernel_rfl) (fun _ _ _ h => h) (below_drew1 (Below.refl _ _)) ?_ ?_ ?_
  rotate_left 2
  · refine .inl ⟨by kernel_rfl, ?_⟩; intro wS hS; have q0 := (HCN.out _ hS).1; have q1 := (HCN.out _ hS).2.1; have q2 := (HCN.out _ hS).2.2; go_simp; with_reducible rfl
  · go_simp; with_reducible rfl
  refine wpK_take0 (v := ?_) (a' := ?_) 2 rfl (by kernel_rfl) (by kernel_rfl) (by kernel_rfl) (by kernel_rfl) (fun _ _ _ h => h) ?_ ?_ ?_
  rotate_left 2
  · refine .inl ⟨by kernel_rfl, ?_⟩; intro wS hS; clear hS; go_simp; with_reducible rfl
  · go_simp; with_reducible rfl
  refine wpK_take0 (v := ?_) (a' := ?_) 3 rfl (by kernel_rfl) (by kernel_rfl) (by kernel_rfl) (by kernel_rfl) (fun _ _ _ h => h) ?_ ?_ ?_
  rotate_left 2
  · refine .inl ⟨by kernel_rfl, ?_⟩; intro wS hS; clear hS; go_simp; with_reducible rfl
  · go_simp; with_reducible rfl
  refine wpK_take (v := ?_) (a' := ?_) 4 rfl (by kernel_rfl) (by kernel_rfl) (by kernel_rfl) (by kernel_rfl) (by kernel_rfl) (fun _ _ _ h => h) (below_drew1 (Below.refl _ _)) ?_ ?_ ?_
  rotate_left 2
  · refine .inl ⟨by kernel_rfl, ?_⟩; intro wS hS; have q0 := (HCN.out _ hS).1; have q1 := (HCN.out _ hS).2.1; have q2 := (HCN.out _ hS).2.2; go_simp; with_reducible rfl
  · go_simp; with_reducible rfl
  refine wpK_one 5 rfl (by kernel_rfl) (fun K hK => ?_)
  have HKK := Lib.hid hK
  clear hK
  go_wp2
  refine HKK.out _ _ (fun _ hS => hS.trans ((below_new _ _).mono hS.size)) ?_
  refine wpK_one 6 rfl (by kernel_rfl) (fun K hK => ?_)
  have HKK := Lib.hid hK
  clear hK
  go_wp2_with fail
  refine HPN.out.mono ?_
  rintro e w9 ⟨rfl, h2, h3, h4⟩
  have H9 := Lib.hid (And.intro h2 (And.intro (HR.out.1.trans ((below_drew1 (Below.refl _ _)).trans h3)) (HR.out.2.trans ((kept_on (below_drew1 (Below.refl _ _))).trans h4))))
  clear h2 h3 h4
  go_wp2
  refine HKK.out _ _ (fun h => absurd h (by decide)) ?_
  refine wpK_end (by kernel_rfl) ?_ _
  go_wp2
  go_end0
  refine ⟨rfl, ?_, H9.out.2⟩
  have := H9.out.1
  rw [(HNM.out _ _).1, (HNM.out [] false).2] at this
  rw [HTX.out]
  simpa [sp] using this
end Go.Proofs.YtoopopjcojphaaaGreatDoor
/-
  show's WRITER, IX: ty; written; Type.
-/
namespace Go.Proofs.YtoopopjcojphaaaGreatDoor
open Go.ChangeShapes Go.WideShapes Go.ChangeAt Go.RowKit
set_option linter.unusedVariables false
mutual
theorem txQ_len : ∀ t : Tt, formedT t = true → (∀ u ∈ pre t, smallV u) → (txT vtQ t).length + 5 ≤ 50 * (pre t).length
  | .mk k n s l, h, hv => by
    by_cases hk : k = 1
    · obtain ⟨h0, _, _⟩ := formed_var h hk
      have h1 : n ≤ 1000 := hv (.mk k n s l) (by rw [pre]; exact List.mem_cons_self ..) hk
      subst hk
      rw [tx_var]
      have := varTx_len n h0 (by omega)
      simp only [pre, vtQ, List.length_cons]; omega
    · obtain ⟨_, h1, h2, _⟩ := formed_con h hk
      rw [tx_con _ hk]
      have h3 := conTx_len s (l.map fun t => (lvN t.name, txT vtQ t)) h1 (fun e => by rw [List.length_map]; exact h2 e)
      have h4 := txQ_lenL l (formed_node h).2 fun u hu => hv u (by rw [pre]; exact List.mem_cons_of_mem _ hu)
      simp only [pre, List.length_cons]; unfold partQ at h4; omega
theorem txQ_lenL : ∀ l : List Tt, (∀ t ∈ l, formedT t = true) → (∀ u ∈ preL l, smallV u) → sumL (l.map partQ) ≤ 50 * (preL l).length
  | [], _, _ => Nat.zero_le _
  | t :: r, h, hv => by
    have h1 := txQ_len t (h t (List.mem_cons_self ..)) fun u hu => hv u (by rw [preL]; exact List.mem_append_left _ hu)
    have h2 := txQ_lenL r (fun u hu => h u (List.mem_cons_of_mem _ hu)) fun u hu => hv u (by rw [preL]; exact List.mem_append_right _ hu)
    simp only [List.map_cons, sumL, List.sum_cons, preL, List.length_append, partQ] at h2 ⊢
    omega
end
/-- bareTy, whatever the type. -/
theorem bareTy_any {w0 w : World} {P M b o c : Nat} {t : Tt} {A : Option Addr} {bs : List UInt8} {g : Bool} (hb0 : Below w0.heap.size w0 w) (h : WS w0.heap.size P w bs g) (hbb : b < w0.heap.size) (hN : Node w0 b o t A c) (hf : formedT t = true) (hv : ∀ u ∈ pre t, smallV u) (hT : Nu.Pow10 w0)
    (hD : ∀ (i : Nat) (hi : i < t.args.length), ∃ b' o', A = some ⟨b', o', none⟩ ∧ TyDoes w0 P M t.args[i] b' (o' + i * 4)) (hM : bs.length + 70 + sumL (t.args.map partQ) ≤ M) (hM2 : M + sumL (t.args.map partQ) ≤ 90000000) (hlen : t.args.length ≤ 1048576) :
    Calls Tryz.prog 80 #[.pointer (some ⟨P, 0, none⟩), .pointer (some ⟨b, o, none⟩)] w (Wrote w0.heap.size P w (bs ++ (sp g ++ txT vtQ t)) false) := by
  obtain ⟨k, n, s, l⟩ := t
  simp only [Tt.args] at hD hM hM2 hlen
  by_cases hk : k = 1
  · obtain ⟨h0, _, _⟩ := formed_var hf hk
    have h1 : n ≤ 1000 := hv (.mk k n s l) (by rw [pre]; exact List.mem_cons_self ..) hk
    subst hk
    exact bare_var hb0 h hbb hN h0 (by omega) hT (by omega)
  by_cases h0 : l = []
  · exact bare_zero hb0 h hbb hN hk hf (by omega) h0
  have hl0 : 0 < l.length := List.length_pos_iff.2 h0
  obtain ⟨b', o', rfl, _⟩ := hD 0 hl0
  have hD' : ∀ (i : Nat) (hi : i < l.length), TyDoes w0 P M l[i] b' (o' + i * 4) := fun i hi => by
    obtain ⟨b2, o2, e, hd⟩ := hD i hi
    obtain ⟨rfl, rfl⟩ : b' = b2 ∧ o' = o2 := by simpa using e
    exact hd
  by_cases h1 : s = ⟨#[45, 62]⟩
  · exact bare_arrow hb0 h hbb hN hk hf h1 hD' hM hM2
  by_cases h2 : s = ⟨#[42]⟩
  · exact bare_star hb0 h hbb hN hk hf h2 hD' hM hM2 hlen
  by_cases h3 : l.length = 1
  · exact bare_one hb0 h hbb hN hk hf h1 h2 h3 hD' hM hM2
  · exact bare_more hb0 h hbb hN hk hf h1 h2 (by omega) hD' hM hM2 hlen
set_option maxRecDepth 100000 in
set_option maxHeartbeats 4000000 in
theorem wty_any {w0 : World} {P : Nat} (hT : Nu.Pow10 w0) : ∀ m, m ≤ 256 → ∀ (t : Tt) (d b o : Nat), (pre t).length ≤ m → formedT t = true → (∀ u ∈ pre t, smallV u) → TyP w0 (Lt w0.heap.size) d t b o → TyDoes w0 P (9000000 - 20000 * m) t b o := by
  intro m
  induction m with
  | zero => intro _ t _ _ _ hle; obtain ⟨k, n, s, l⟩ := t; simp [pre] at hle
  | succ m ih =>
    intro hm t d b o hle hf hv hP k W bs g hb0 hws hl
    obtain ⟨A, c, d', rfl, hN, hnn, hlen, hnm, hSb, hkids⟩ := hP.node
    have hne : (pre t).length = 1 + (preL t.args).length := by cases t; simp [pre, Tt.args]; omega
    have hbb : b < w0.heap.size := hSb
    have hfl : ∀ t' ∈ t.args, formedT t' = true := by obtain ⟨k, n, s, l⟩ := t; exact (formed_node hf).2
    have hvl : ∀ u ∈ preL t.args, smallV u := fun u hu => hv u (by cases t; rw [pre]; exact List.mem_cons_of_mem _ hu)
    have hsum := txQ_lenL t.args hfl hvl
    have hD : ∀ (i : Nat) (hi : i < t.args.length), ∃ b' o', A = some ⟨b', o', none⟩ ∧ TyDoes w0 P (9000000 - 20000 * m) t.args[i] b' (o' + i * 4) := fun i hi => by
      obtain ⟨b', o', e, hp⟩ := hkids i hi
      refine ⟨b', o', e, ih (by omega) _ d' b' _ ?_ (hfl _ (List.getElem_mem _)) (fun u hu => hvl u (mem_preL (List.getElem_mem _) hu)) hp⟩
      have := preL_len_le hi; omega
    obtain ⟨w2, hw2⟩ : ∃ w2, w2 = (W.alloc (.cells #[.pointer (some ⟨P, 0, none⟩)] 107)).alloc (.cells #[.pointer (some ⟨b, o, none⟩)] 50) := ⟨_, rfl⟩
    have hb2 : Below W.heap.size W w2 := by rw [hw2]; exact (below_new _ _).trans ((below_new _ _).mono (by simp only [World.size_alloc]; omega))
    have g0 : w2.heap[W.heap.size]? = some (.cells #[.pointer (some ⟨P, 0, none⟩)] 107 (0, 0)) := by
      rw [hw2, (below_new _ _).block _ (by simp only [World.size_alloc]; omega)]; exact heap_alloc_new _ _
    have g1 : w2.heap[W.heap.size + 1]? = some (.cells #[.pointer (some ⟨b, o, none⟩)] 50 (0, 0)) := by
      rw [hw2]
      have := heap_alloc_new (W.alloc (.cells #[.pointer (some ⟨P, 0, none⟩)] 107)) (.cells #[.pointer (some ⟨b, o, none⟩)] 50)
      simpa using this
    have hPl := hws.lt
    have hws2 := hws.on hb2
    have hb02 : Below w0.heap.size w0 w2 := hb0.trans (hb2.mono hb0.size)
    have HPT : Hid (∀ W2, Below w2.heap.size w2 W2 → Parts w0.heap.size P W2 (9000000 - 20000 * (m + 1) + 10) 79 #[.pointer (some ⟨W.heap.size, 0, none⟩), .pointer (some ⟨W.heap.size + 1, 0, none⟩)] (txT vtQ t)) := Lib.hid (by
      intro W2 hW2 W' bs' g' hb hk hws' hl'
      have hk2 := (kept_on (P := P) hW2).trans hk
      have q0 := kept_one hk2 g0 (by omega) (by decide)
      have q1 := kept_one hk2 g1 (by omega) (by decide)
      have HC := Lib.hid (bareTy_any (M := 9000000 - 20000 * m) ((hb02.trans (hW2.mono hws2.2.1)).trans hb) hws' hbb hN hf hv hT hD (by omega) (by omega) hlen)
      clear ih hP hkids hD hw2 g0 g1 hb hk hws' hk2 hW2 hws2 hb02 hb2 hws hb0 hN
      go_enter Tryz.func79, Tryz.ntmps79
      go_wp2_with fail
      refine HC.out.mono ?_
      rintro e w5 ⟨rfl, h1⟩
      have H1 := Lib.hid h1
      clear h1
      go_wp2
      go_end0
      exact ⟨rfl, H1.out⟩)
    have HCE : Hid (∀ W', Below w2.heap.size w2 W' → W'.cell? ⟨W.heap.size, 0, none⟩ = some (.pointer (some ⟨P, 0, none⟩)) ∧ W'.cell? ⟨W.heap.size + 1, 0, none⟩ = some (.pointer (some ⟨b, o, none⟩))) := Lib.hid fun W' hW =>
      ⟨kept_one (P := P) (kept_on hW) g0 (by omega) (by decide), kept_one (P := P) (kept_on hW) g1 (by omega) (by decide)⟩
    have HLV : Hid (∀ W', Below w2.heap.size w2 W' → Calls Tryz.prog 78 #[.pointer (some ⟨b, o, none⟩)] W' fun e w' => e = .returned (.int .i64 (lvN t.name : Nat)) ∧ W' = w') := Lib.hid fun W' hW =>
      tyLevel_any (hN.keep (S := Lt w0.heap.size) (Same.of_below (hb02.trans (hW.mono hws2.2.1)) (fun x hx => hx)) hbb)
    have HGR : Hid (∀ W2, Below w2.heap.size w2 W2 → Calls Tryz.prog 77 #[.pointer (some ⟨P, 0, none⟩), .bool (decide (lvN t.name < k)), .func (.func 79) #[] #[.pointer (some ⟨W.heap.size, 0, none⟩), .pointer (some ⟨W.heap.size + 1, 0, none⟩)]] W2 (Wrote w0.heap.size P W2 (bs ++ (sp g ++ wrapL (decide (lvN t.name < k)) (txT vtQ t))) false)) := Lib.hid fun W2 hW2 =>
      wgroup_any (fun args w => by kernel_rfl) (hws2.on hW2) _ _ (by omega) (by have := txQ_len t hf hv; omega) (HPT.out W2 hW2)
    have HW2 := Lib.hid hw2
    have HBK := Lib.hid (And.intro (hb2.mono hws.2.1) (kept_on (P := P) hb2))
    have HDL : Hid (decide ((lvN t.name : Int) < k) = decide (lvN t.name < k)) := Lib.hid (by rw [decide_eq_decide]; omega)
    clear ih hP hkids hD hw2 g0 g1 hws2 hb02 hb2 hws hb0 hN HPT
    unfold wrK partQ
    go_enter Tryz.func66, Tryz.ntmps66
    go_wp2_with fail
    rw [← HW2.out]
    refine wp_region_K (fun w' => Below w2.heap.size w2 w') (fun j => j != 6) (by kernel_rfl) ?_
    refine wpK_take (v := ?_) (a' := ?_) 0 rfl (by kernel_rfl) (by kernel_rfl) (by kernel_rfl) (by kernel_rfl) (by kernel_rfl) (fun _ _ _ h => h) (below_drew1 (Below.refl _ _)) ?_ ?_ ?_
    rotate_left 2
    · refine .inl ⟨by kernel_rfl, ?_⟩; intro wS hS; have q0 := (HCE.out _ hS).1; have q1 := (HCE.out _ hS).2; go_simp; with_reducible rfl
    · go_simp; with_reducible rfl
    refine wpK_take (v := ?_) (a' := ?_) 1 rfl (by kernel_rfl) (by kernel_rfl) (by kernel_rfl) (by kernel_rfl) (by kernel_rfl) (fun _ _ _ h => h) (below_drew1 (Below.refl _ _)) ?_ ?_ ?_
    rotate_left 2
    · refine .inl ⟨by kernel_rfl, ?_⟩; intro wS hS; have q0 := (HCE.out _ hS).1; have q1 := (HCE.out _ hS).2; go_simp; with_reducible rfl
    · go_simp; with_reducible rfl
    refine wpK_take0 (v := ?_) (a' := ?_) 3 rfl (by kernel_rfl) (by kernel_rfl) (by kernel_rfl) (by kernel_rfl) (fun _ _ _ h => h) ?_ ?_ ?_
    rotate_left 2
    · refine .inl ⟨by kernel_rfl, ?_⟩; intro wS hS; clear hS; go_simp; with_reducible rfl
    · go_simp; with_reducible rfl
    refine wpK_take0 (v := ?_) (a' := ?_) 5 rfl (by kernel_rfl) (by kernel_rfl) (by kernel_rfl) (by kernel_rfl) (fun _ _ _ h => h) ?_ ?_ ?_
    rotate_left 2
    · refine .inl ⟨by kernel_rfl, ?_⟩; intro wS hS; clear hS; go_simp; with_reducible rfl
    · go_simp; with_reducible rfl
    refine wpK_one 2 rfl (by kernel_rfl) (fun K hK => ?_)
    have HKK := Lib.hid hK
    clear hK
    go_wp2_with fail
    refine (HLV.out _ (below_drew1 (Below.refl _ _))).mono ?_
    rintro e w3 ⟨rfl, rfl⟩
    go_wp2
    refine HKK.out _ _ (fun _ h => h) ?_
    refine wpK_one 4 rfl (by kernel_rfl) (fun K hK => ?_)
    have HKK := Lib.hid hK
    clear hK
    go_wp2
    refine HKK.out _ _ (fun _ h => h) ?_
    refine wpK_one 6 rfl (by kernel_rfl) (fun K hK => ?_)
    have HKK := Lib.hid hK
    clear hK
    go_wp2_with fail
    refine (HGR.out _ (below_drew1 (Below.refl _ _))).mono ?_
    rintro e w4 ⟨rfl, h2, h3, h4⟩
    have H4 := Lib.hid (And.intro h2 (And.intro (HBK.out.1.trans ((below_drew1 (Below.refl _ _)).trans h3)) (HBK.out.2.trans ((kept_on (below_drew1 (Below.refl _ _))).trans h4))))
    clear h2 h3 h4
    go_wp2
    refine HKK.out _ _ (fun h => absurd h (by decide)) ?_
    refine wpK_end (by kernel_rfl) ?_ _
    go_wp2
    go_end0
    exact ⟨rfl, H4.out⟩
end Go.Proofs.YtoopopjcojphaaaGreatDoor
/-
  show's written; Type.
-/
namespace Go.Proofs.YtoopopjcojphaaaGreatDoor
open Go.ChangeShapes Go.WideShapes Go.ChangeAt Go.RowKit
set_option linter.unusedVariables false
theorem ws_text {B P : Nat} {w : World} {bs : List UInt8} {g : Bool} (h : WS B P w bs g) (hne : bs ≠ []) : ∃ a c, w.cell? ⟨P, 0, none⟩ = some (.slice (some ⟨a, 0, none⟩) bs.length c) ∧ (convert 113 9 (.slice (some ⟨a, 0, none⟩) bs.length c)).run Tryz.prog w = .ok (.string ⟨bs.toArray⟩) w := by
  obtain ⟨h1, h2, v, h3, ⟨h4, h5⟩, h6⟩ := h
  have hsz : (⟨bs.toArray⟩ : ByteArray).size = bs.length := by show bs.toArray.size = _; simp
  rcases h5 with ⟨_, h0⟩ | ⟨a, cap, cur, rfl, hb, hg, hc1, hc2, hs, ht⟩
  · exact absurd (List.length_eq_zero_iff.1 h0) hne
  · refine ⟨a, cap, by rw [Lib.cell_of_heap h3]; rfl, ?_⟩
    have := Lib.run_convert_whole (P := Tryz.prog) w 113 5 9 Tryz.underlying113 Tryz.underlying5 Tryz.underlying9 a 0 ⟨bs.toArray⟩ (fun i hi => by
      have hi' : i < bs.length := by rw [← hsz]; exact hi
      rw [Nat.zero_add, Lib.cell_of_heap hg]
      have e : cur.toList[i]? = (cur.toList.take (bs.length * 1))[i]? := by rw [List.getElem?_take_of_lt (by omega)]
      rw [← Array.getElem?_toList, e, ht]
      rw [show (⟨bs.toArray⟩ : ByteArray)[i] = bs[i] from by show bs.toArray[i] = _; simp]
      simp [Lib.byteCells, List.getElem?_eq_getElem hi']) cap
    rwa [hsz] at this
set_option maxRecDepth 100000 in
set_option maxHeartbeats 4000000 in
theorem written_any {w : World} {F : Nat} {cap : Array Value} (hcf : CallIs F) {frag : List UInt8} (hne : frag ≠ []) (HF : ∀ W, Below w.heap.size w W → WS w.heap.size w.heap.size W [] true → Calls Tryz.prog F (#[.pointer (some ⟨w.heap.size, 0, none⟩)] ++ cap) W (Wrote w.heap.size w.heap.size W frag false)) :
    Calls Tryz.prog 64 #[.func (.func F) #[] cap] w fun e w' => e = .returned (.string ⟨frag.toArray⟩) ∧ Below w.heap.size w w' := by
  unfold CallIs at hcf
  obtain ⟨w1, hw1⟩ : ∃ w1, w1 = w.alloc (.cells #[.slice none 0 0, .bool true] 115) := ⟨_, rfl⟩
  have hb1 : Below w.heap.size w w1 := by rw [hw1]; exact below_new _ _
  have hws : WS w.heap.size w.heap.size w1 [] true := ⟨Nat.le_refl _, hb1.size, .slice none 0 0, by rw [hw1]; exact heap_alloc_new _ _, ⟨rfl, .inl ⟨rfl, rfl⟩⟩, by simp [Value.ownBlock]⟩
  have HC := Lib.hid (HF w1 hb1 hws)
  have HB1 := Lib.hid hb1
  have HW1 := Lib.hid hw1
  clear hw1 hb1 hws HF
  go_enter Tryz.func64, Tryz.ntmps64
  go_wp2_with fail
  rw [← HW1.out]
  refine HC.out.mono ?_
  rintro e w2 ⟨rfl, h2, h3, h4⟩
  obtain ⟨a, c, q0, q1⟩ := ws_text h2 hne
  have HB2 := Lib.hid (HB1.out.trans h3)
  clear h2 h3 h4
  go_wp2
  go_ret
  exact ⟨rfl, HB2.out⟩
set_option maxRecDepth 100000 in
set_option maxHeartbeats 4000000 in
theorem showType_val {w : World} {t : Tt} {x : Value} (h : Val w t x) (hf : formedT t = true) (hv : ∀ u ∈ pre t, smallV u) (hn : (pre t).length ≤ 256) (hT : Lx.Tabs w) (hT2 : Nu.Pow10 w) (hne : txT vtQ t ≠ []) :
    Calls Tryz.prog 39 #[x] w fun e w' => e = .returned (.string ⟨(txT vtQ t).toArray⟩) ∧ Below w.heap.size w w' := by
  have HV := Lib.hid h
  obtain ⟨A, c, rfl, d, hd⟩ := h
  obtain ⟨w0, hw0⟩ : ∃ w0, w0 = w.alloc (.cells #[.int .i64 t.kind, .int .i64 t.num, .string t.name, .slice A t.args.length c] 25) := ⟨_, rfl⟩
  have hP := boxed (fun b hb => hb) hd
  rw [← hw0] at hP
  have hsz : w0.heap.size = w.heap.size + 1 := by rw [hw0]; simp
  have hb0 : Below w.heap.size w w0 := by rw [hw0]; exact below_new _ _
  have HB0 := Lib.hid hb0
  have hg0 : w0.heap[w.heap.size]? = some (.cells #[.int .i64 t.kind, .int .i64 t.num, .string t.name, .slice A t.args.length c] 25 (0, 0)) := by rw [hw0]; exact heap_alloc_new _ _
  have HW := Lib.hid hw0
  have HR := Lib.hid (isRight_yes (HV.out.on hb0) hf hv hn (hT.on hb0))
  have HC : Hid (∀ w1, Below w0.heap.size w0 w1 → Calls Tryz.prog 64 #[.func (.func 65) #[] #[.pointer (some ⟨w.heap.size, 0, none⟩)]] w1 fun e w' => e = .returned (.string ⟨(txT vtQ t).toArray⟩) ∧ Below w1.heap.size w1 w') := Lib.hid fun w1 hb => by
    refine written_any (fun args w => by kernel_rfl) hne fun W hW hws => ?_
    have hP1 : TyP w1 (Lt w1.heap.size) d t w.heap.size 0 := by
      have := hP.keep (Same.of_below hb (fun x hx => by have : x < w.heap.size + 1 := hx; omega))
      obtain ⟨h1, cs, h2, h3⟩ := this
      exact ⟨by show _ < _; have := hb.size; omega, cs, h2, TyRd.more (fun x hx => by have : x < w.heap.size + 1 := hx; show x < w1.heap.size; have := hb.size; omega) _ _ _ h3⟩
    have HD := Lib.hid (wty_any ((hT2.on hb0).on hb) 256 (by omega) t d w.heap.size 0 hn hf hv hP1 0 W [] true hW hws (by decide))
    clear hP hP1 hd hws hW hf hv hT hT2 hw0 HR HV hb0 hg0 hne
    show Calls Tryz.prog 65 #[.pointer (some ⟨w1.heap.size, 0, none⟩), .pointer (some ⟨w.heap.size, 0, none⟩)] W _
    go_enter Tryz.func65, Tryz.ntmps65
    go_wp2_with fail
    refine HD.out.mono ?_
    rintro e w5 ⟨rfl, h1⟩
    have H1 := Lib.hid h1
    clear h1
    go_wp2
    go_end0
    refine ⟨rfl, ?_⟩
    simpa [sp, wrK, wrapL, partQ] using H1.out
  clear hd hP hf hv hT hT2 hw0 hb0 hne
  go_enter Tryz.func39, Tryz.ntmps39
  go_wp2_with fail
  rw [← HW.out]
  refine HR.out.mono ?_
  rintro e w1 ⟨rfl, hb1⟩
  have HB1 := Lib.hid hb1
  clear hb1
  go_wp2_with fail
  refine (HC.out w1 HB1.out).mono ?_
  rintro e w2 ⟨rfl, hb2⟩
  have HB2 := Lib.hid (below_then HB0.out (below_then HB1.out hb2))
  clear hb2
  go_wp2
  go_ret
  exact ⟨rfl, HB2.out⟩
end Go.Proofs.YtoopopjcojphaaaGreatDoor
