import Derived.Test.YtoopopjcojphaaaGreatDoorQA
import Derived.Test.YtoopopjcojphaaaGreatDoorChecked
import Derived.Calls
import Derived.LoopTactic
import Derived.WalkKit
import Derived.WalkSpells
import Derived.Outline
import Derived.Deep.MidRow
import Derived.Laws.Rows
import Derived.Laws.Tables
import Derived.Laws.NewBlocks
import Derived.Deep.WholeRow
import Derived.WalkLawsBesides
/-
  READINGS OF TYPES, AND ty.all.
-/
namespace Go.Proofs.YtoopopjcojphaaaGreatDoor
open Go.ChangeShapes Go.WideShapes Go.ChangeAt Go.RowKit
set_option linter.unusedVariables false
/-- The cells cs read as the type t, to a depth, through the blocks of S. -/
def TyRd (w : World) (S : Nat → Prop) : Nat → Tt → List Value → Prop
  | 0, _, _ => False
  | d + 1, .mk k n s l, cs => ∃ A c, cs = [.int .i64 k, .int .i64 n, .string s, .slice A l.length c] ∧ (-9223372036854775808 ≤ n ∧ n ≤ 9223372036854775807) ∧ l.length ≤ 1048576 ∧ s.size ≤ 1048576 ∧
      ∀ (i : Nat) (t : Tt), l[i]? = some t → ∃ b o cs', A = some ⟨b, o, none⟩ ∧ S b ∧ w.rangeAt b (o + i * 4) cs' ∧ TyRd w S d t cs'
theorem TyRd.keep {w w' : World} {S : Nat → Prop} (hs : Same S w w') : ∀ (d : Nat) (t : Tt) (cs : List Value), TyRd w S d t cs → TyRd w' S d t cs
  | 0, _, _, h => h
  | d + 1, .mk k n s l, cs, h => by
    obtain ⟨A, c, h1, h2, h4, h5, h3⟩ := h
    refine ⟨A, c, h1, h2, h4, h5, fun i t ht => ?_⟩
    obtain ⟨b, o, cs', e, hB, hr, hd⟩ := h3 i t ht
    exact ⟨b, o, cs', e, hB, range_same hr hs hB, TyRd.keep hs d t cs' hd⟩
theorem TyRd.more {w : World} {S S' : Nat → Prop} (hS : ∀ b, S b → S' b) : ∀ (d : Nat) (t : Tt) (cs : List Value), TyRd w S d t cs → TyRd w S' d t cs
  | 0, _, _, h => h
  | d + 1, .mk k n s l, cs, h => by
    obtain ⟨A, c, h1, h2, h4, h5, h3⟩ := h
    refine ⟨A, c, h1, h2, h4, h5, fun i t ht => ?_⟩
    obtain ⟨b, o, cs', e, hb, hr, hd⟩ := h3 i t ht
    exact ⟨b, o, cs', e, hS b hb, hr, TyRd.more hS d t cs' hd⟩
theorem TyRd.deeper {w : World} {S : Nat → Prop} : ∀ (d d' : Nat) (t : Tt) (cs : List Value), d ≤ d' → TyRd w S d t cs → TyRd w S d' t cs
  | 0, _, _, _, _, h => h.elim
  | d + 1, 0, _, _, hd, _ => absurd hd (by omega)
  | d + 1, d' + 1, .mk k n s l, cs, hd, h => by
    obtain ⟨A, c, h1, h2, h4, h5, h3⟩ := h
    refine ⟨A, c, h1, h2, h4, h5, fun i t ht => ?_⟩
    obtain ⟨b, o, cs', e, hb, hr, hd'⟩ := h3 i t ht
    exact ⟨b, o, cs', e, hb, hr, TyRd.deeper d d' t cs' (by omega) hd'⟩
/-- THE READING OF TYPES. -/
def TyR : Reading Tt where
  rd w S t cs := ∃ d, TyRd w S d t cs
  keep h := fun ⟨d, hd⟩ => ⟨d, TyRd.keep h d _ _ hd⟩
  more h := fun ⟨d, hd⟩ => ⟨d, TyRd.more h d _ _ hd⟩
theorem TyRd.rows {w : World} {S : Nat → Prop} {d : Nat} {k n : Int} {s : ByteArray} {l : List Tt} {cs : List Value} (h : TyRd w S (d + 1) (.mk k n s l) cs) :
    ∃ A c, cs = [.int .i64 k, .int .i64 n, .string s, .slice A l.length c] ∧ (-9223372036854775808 ≤ n ∧ n ≤ 9223372036854775807) ∧ l.length ≤ 1048576 ∧ s.size ≤ 1048576 ∧ Rows TyR 4 w S A l := by
  obtain ⟨A, c, h1, h2, h3, h4, h5⟩ := h
  exact ⟨A, c, h1, h2, h3, h4, fun i t ht => by obtain ⟨b, o, cs', e, hb, hr, hd⟩ := h5 i t ht; exact ⟨b, o, cs', e, hb, hr, d, hd⟩⟩
theorem deep_of {w : World} {S : Nat → Prop} {A : Option Addr} : ∀ {l : List Tt}, Rows TyR 4 w S A l → ∃ d, ∀ (i : Nat) (t : Tt), l[i]? = some t → ∃ b o cs', A = some ⟨b, o, none⟩ ∧ S b ∧ w.rangeAt b (o + i * 4) cs' ∧ TyRd w S d t cs' := by
  intro l h
  have key : ∀ n, ∃ d, ∀ (i : Nat) (t : Tt), i < n → l[i]? = some t → ∃ b o cs', A = some ⟨b, o, none⟩ ∧ S b ∧ w.rangeAt b (o + i * 4) cs' ∧ TyRd w S d t cs' := by
    intro n
    induction n with
    | zero => exact ⟨0, fun i t hi => by omega⟩
    | succ n ih =>
      obtain ⟨d, hd⟩ := ih
      cases hn : l[n]? with
      | none =>
        refine ⟨d, fun i t hi ht => ?_⟩
        by_cases h0 : i = n
        · subst h0; rw [hn] at ht; cases ht
        · exact hd i t (by omega) ht
      | some u =>
        obtain ⟨b, o, cs, e, hS, hr, d', hd'⟩ := h n u hn
        refine ⟨d + d', fun i t hi ht => ?_⟩
        by_cases h0 : i = n
        · subst h0
          rw [hn] at ht; cases ht
          exact ⟨b, o, cs, e, hS, hr, hd'.deeper _ _ _ _ (by omega)⟩
        · obtain ⟨b, o, cs, e, hS, hr, hq⟩ := hd i t (by omega) ht
          exact ⟨b, o, cs, e, hS, hr, hq.deeper _ _ _ _ (by omega)⟩
  obtain ⟨d, hd⟩ := key l.length
  exact ⟨d, fun i t ht => hd i t (List.getElem?_eq_some_iff.1 ht).1 ht⟩
theorem TyR.mk {w : World} {S : Nat → Prop} {k n : Int} {s : ByteArray} {l : List Tt} {A : Option Addr} {c : Nat} (h2 : -9223372036854775808 ≤ n ∧ n ≤ 9223372036854775807) (h3 : l.length ≤ 1048576) (h4 : s.size ≤ 1048576) (h : Rows TyR 4 w S A l) :
    TyR.rd w S (.mk k n s l) [.int .i64 k, .int .i64 n, .string s, .slice A l.length c] := by
  obtain ⟨d, hd⟩ := deep_of h
  exact ⟨d + 1, A, c, rfl, h2, h3, h4, hd⟩
theorem TyR.open_ {w : World} {S : Nat → Prop} {t : Tt} {cs : List Value} (h : TyR.rd w S t cs) :
    ∃ A c, cs = [.int .i64 t.kind, .int .i64 t.num, .string t.name, .slice A t.args.length c] ∧ (-9223372036854775808 ≤ t.num ∧ t.num ≤ 9223372036854775807) ∧ t.args.length ≤ 1048576 ∧ t.name.size ≤ 1048576 ∧ Rows TyR 4 w S A t.args := by
  obtain ⟨d, h⟩ := h
  cases d with
  | zero => exact h.elim
  | succ d => cases t; exact h.rows
/-- At ⟨b, o⟩ lies the type t. -/
def TyP (w : World) (S : Nat → Prop) (d : Nat) (t : Tt) (b o : Nat) : Prop := S b ∧ ∃ cs, w.rangeAt b o cs ∧ TyRd w S d t cs
theorem TyP.keep {w w' : World} {S : Nat → Prop} {d b o : Nat} {t : Tt} (h : TyP w S d t b o) (hs : Same S w w') : TyP w' S d t b o := by
  obtain ⟨h1, cs, h2, h3⟩ := h
  exact ⟨h1, cs, range_same h2 hs h1, h3.keep hs⟩
/-- The cells of a node. -/
def Node (w : World) (b o : Nat) (t : Tt) (A : Option Addr) (c : Nat) : Prop :=
  w.cell? ⟨b, o, none⟩ = some (.int .i64 t.kind) ∧ w.cell? ⟨b, o + 1, none⟩ = some (.int .i64 t.num) ∧ w.cell? ⟨b, o + 2, none⟩ = some (.string t.name) ∧ w.cell? ⟨b, o + 3, none⟩ = some (.slice A t.args.length c)
theorem Node.keep {w w' : World} {S : Nat → Prop} {b o c : Nat} {t : Tt} {A : Option Addr} (h : Node w b o t A c) (hs : Same S w w') (hb : S b) : Node w' b o t A c :=
  ⟨(hs _ _ hb).trans h.1, (hs _ _ hb).trans h.2.1, (hs _ _ hb).trans h.2.2.1, (hs _ _ hb).trans h.2.2.2⟩
theorem TyP.node {w : World} {S : Nat → Prop} {d b o : Nat} {t : Tt} (h : TyP w S d t b o) : ∃ A c d', d = d' + 1 ∧ Node w b o t A c ∧ (-9223372036854775808 ≤ t.num ∧ t.num ≤ 9223372036854775807) ∧ t.args.length ≤ 1048576 ∧ t.name.size ≤ 1048576 ∧ S b ∧
    ∀ (i : Nat) (hi : i < t.args.length), ∃ b' o', A = some ⟨b', o', none⟩ ∧ TyP w S d' t.args[i] b' (o' + i * 4) := by
  obtain ⟨hB, cs, hr, hd⟩ := h
  cases d with
  | zero => exact hd.elim
  | succ d =>
    obtain ⟨k, n, s, l⟩ := t
    obtain ⟨A, c, rfl, hn, hl, hs, hk⟩ := hd
    refine ⟨A, c, d, rfl, ⟨hr 0 _ rfl, hr 1 _ rfl, hr 2 _ rfl, hr 3 _ rfl⟩, hn, hl, hs, hB, fun i hi => ?_⟩
    obtain ⟨b', o', cs', e, hb', hr', hd'⟩ := hk i _ (List.getElem?_eq_getElem hi)
    exact ⟨b', o', e, hb', cs', hr', hd'⟩

/-- A closure that is asked about nodes: what it answers, and what becomes of what it keeps. -/
def Asked (w0 : World) (S : Nat → Prop) {σ : Type} (I : σ → World → Prop) (f : Nat) (cap : Array Value) (step : σ → Tt → σ × Bool) (good : σ → Tt → Prop) : Prop :=
  (∀ s w, I s w → Same S w0 w) ∧ (∀ (args : Array Value) (w : World), (callFunc f args).run Tryz.prog w = .ok (.enter f args) w) ∧ ∀ s w d t b o, I s w → good s t → TyP w S d t b o → Calls Tryz.prog f (#[.pointer (some ⟨b, o, none⟩)] ++ cap) w fun e w' => e = .returned (.bool (step s t).2) ∧ I (step s t).1 w'
theorem scan_take {σ : Type} {step : σ → Tt → σ × Bool} {s : σ} {l : List Tt} {k : Nat} (hk : k < l.length) (h : (scan step s (preL (l.take k))).2 = true) :
    scan step s (preL (l.take (k + 1))) = scan step (scan step s (preL (l.take k))).1 (pre l[k]) := by rw [preL_take l k hk, scan_app_yes step _ h]
theorem scan_stop {σ : Type} {step : σ → Tt → σ × Bool} {s : σ} {l : List Tt} {k : Nat} (hk : k < l.length) (h : (scan step s (preL (l.take (k + 1)))).2 = false) : scan step s (preL l) = scan step s (preL (l.take (k + 1))) := by
  have e : l = l.take (k + 1) ++ l.drop (k + 1) := (List.take_append_drop _ _).symm
  rw [show preL l = preL (l.take (k + 1)) ++ preL (l.drop (k + 1)) by rw [← preL_append, ← e], scan_app_no step _ h]
theorem scan_kids {σ : Type} {step : σ → Tt → σ × Bool} {s : σ} {t : Tt} (h : (step s t).2 = true) : scan step s (pre t) = scan step (step s t).1 (preL t.args) := by
  cases t; simp only [pre, Tt.args]; exact scan_yes step h _
set_option maxHeartbeats 1000000 in
theorem all_any {w0 : World} {S : Nat → Prop} {σ : Type} {I : σ → World → Prop} {f : Nat} {cap : Array Value} {step : σ → Tt → σ × Bool} {good : σ → Tt → Prop} (hA : Asked w0 S I f cap step good) :
    ∀ (d : Nat) (t : Tt) (s : σ) (w : World) (b o : Nat), I s w → goods step good s (pre t) → TyP w0 S d t b o →
      Calls Tryz.prog 48 #[.pointer (some ⟨b, o, none⟩), .func (.func f) #[] cap] w fun e w' => e = .returned (.bool (scan step s (pre t)).2) ∧ I (scan step s (pre t)).1 w' := by
  intro d
  induction d with
  | zero => intro t s w b o _ _ h; exact h.2.elim fun _ h => h.2.elim
  | succ d ih =>
    intro t s w b o hI hg hP
    have hX := hA.2.2 s w _ t b o hI (by cases t; exact hg.1) (hP.keep (hA.1 s w hI))
    obtain ⟨A, c, d', hd, hN, hn, hlen, hnm, hbB, hkids⟩ := hP.node
    obtain rfl : d = d' := by omega
    have HX := Lib.hid hX
    have HK := Lib.hid hkids
    have HN := Lib.hid hN
    have HI := Lib.hid hA.1
    have HIH := Lib.hid ih
    have HG : Hid ((step s t).2 = true → goods step good (step s t).1 (preL t.args)) := Lib.hid (by cases t; exact hg.2)
    have HSb := Lib.hid hbB
    clear hbB
    have HT := Lib.hid (t.eta)
    have hcf := hA.2.1
    clear hA hX hN hkids hd ih hP hg
    cases hs : (step s t).2
    · have HS := Lib.hid hs
      clear hs
      go_enter Tryz.func48, Tryz.ntmps48
      go_wp2_with fail
      refine HX.out.mono ?_
      rw [HS.out]
      rintro e w1 ⟨rfl, h1⟩
      go_wp2
      go_ret
      rw [scan_pre_no HT.out.symm HS.out]
      exact ⟨rfl, h1⟩
    · have HS := Lib.hid hs
      have HG := Lib.hid (HG.out hs)
      have HE := Lib.hid (scan_kids hs)
      clear hs
      go_enter Tryz.func48, Tryz.ntmps48
      go_wp2_with fail
      refine HX.out.mono ?_
      rw [HS.out]
      rintro e w1 ⟨rfl, h1⟩
      have HQ := Lib.hid h1
      have q3 := (HN.out.keep (HI.out _ _ h1) HSb.out).2.2.2
      clear h1
      generalize (step s t).1 = s1 at *
      go_wp2
      go_loopw [15] (fun z wr => ∃ k : Nat, k ≤ t.args.length ∧ z = .int .i64 k ∧ (scan step s1 (preL (t.args.take k))).2 = true ∧ I (scan step s1 (preL (t.args.take k))).1 wr) (fun z _ => t.args.length - (intOf z).toNat)
      case atStart => exact ⟨0, Nat.zero_le _, rfl, rfl, HQ.out⟩
      case round =>
        obtain ⟨k, hk, rfl, hy, hi⟩ := hrel
        have HY := Lib.hid hy
        have HJ := Lib.hid hi
        have q3' := (HN.out.keep (HI.out _ _ hi) HSb.out).2.2.2
        clear hy hi q3
        by_cases hlt : k < t.args.length
        · obtain ⟨b', o', rfl, hk'⟩ := HK.out k hlt
          have HK' := Lib.hid hk'
          have HC := Lib.hid (HIH.out t.args[k] _ wr b' (o' + k * 4) HJ.out (goods_kid hlt HG.out HY.out) hk')
          have HZ := Lib.hid (scan_take hlt HY.out)
          clear hk'
          rw [← HZ.out] at HC
          cases hs : (scan step s1 (preL (t.args.take (k + 1)))).2
          · have HS2 := Lib.hid hs
            have HST := Lib.hid (scan_stop hlt hs)
            clear hs
            go_wp2_with fail
            refine HC.out.mono ?_
            rw [HS2.out]
            rintro e w1 ⟨rfl, h1⟩
            have HR := Lib.hid h1
            clear h1
            go_wp2
            go_ret
            rw [HE.out, HST.out]
            exact ⟨ret_bool HS2.out.symm, HR.out⟩
          · have HS2 := Lib.hid hs
            clear hs
            go_wp2_with fail
            refine HC.out.mono ?_
            rw [HS2.out]
            rintro e w1 ⟨rfl, h1⟩
            have HR := Lib.hid h1
            clear h1
            go_wp2
            go_roundw
            case rel => exact ⟨k + 1, by omega, by go_num, HS2.out, HR.out⟩
            case measure => simp [intOf]; omega
        · obtain rfl : k = t.args.length := by omega
          rw [List.take_length] at HY HJ
          go_wp2
          go_ret
          rw [HE.out]
          exact ⟨ret_bool HY.out.symm, HJ.out⟩
end Go.Proofs.YtoopopjcojphaaaGreatDoor
/-
  ty.copied.
-/
namespace Go.Proofs.YtoopopjcojphaaaGreatDoor
open Go.ChangeShapes Go.WideShapes Go.ChangeAt Go.RowKit
set_option linter.unusedVariables false
theorem below_drew1 {B : Nat} {a w : World} (h : Below B a w) : Below B a w.drew := ⟨h.os, h.tape, h.output, h.size, h.block⟩
theorem tyInfo : (Tryz.prog.info? 25).map (fun i => (i.zero, i.size, i.bytes)) = some (some (.agg #[.int .i64 0, .int .i64 0, .string ⟨#[]⟩, .slice none 0 0]), 4, 56) := by kernel_rfl
theorem tySize (x y z u : Value) : (Tryz.prog.info? 25).map (·.size) = some [x, y, z, u].length := by kernel_rfl
theorem tySizeA (x y z u : Value) : (Tryz.prog.info? 25).map (·.size) = some (#[x, y, z, u] : Array Value).size := by kernel_rfl
theorem one4 (x y : Int) (s : ByteArray) (A : Option Addr) (n c : Nat) : (#[Value.int .i64 x, .int .i64 y, .string s, .slice A n c] : Array Value).all (·.oneCell') = true := by simp [Value.oneCell']
/-- What comes back: a type, all in new memory. -/
def Made (w : World) (B : Nat) (u : Tt) (e : Ending) (w' : World) : Prop :=
  ∃ A c, e = .returned (.agg #[.int .i64 u.kind, .int .i64 u.num, .string u.name, .slice A u.args.length c]) ∧ TyR.rd w' (New B w') u [.int .i64 u.kind, .int .i64 u.num, .string u.name, .slice A u.args.length c] ∧ Below w.heap.size w w'
/-- A function that makes of each variable something. -/
def Gives (w0 : World) (f : Nat) (cap : Array Value) (g : Tt → Tt) : Prop :=
  (∀ (args : Array Value) (w : World), (callFunc f args).run Tryz.prog w = .ok (.enter f args) w) ∧
  ∀ (w : World) (t : Tt) (A : Option Addr) (c B : Nat), Below w0.heap.size w0 w → w0.heap.size ≤ B → B ≤ w.heap.size → t.kind = 1 → TyR.rd w (New B w) t [.int .i64 t.kind, .int .i64 t.num, .string t.name, .slice A t.args.length c] →
    Calls Tryz.prog f (#[.agg #[.int .i64 t.kind, .int .i64 t.num, .string t.name, .slice A t.args.length c]] ++ cap) w (Made w B (g t))
/-- At the head of a round of copied. -/
structure CopyAt (W : World) (kk n : Int) (s : ByteArray) (us : List Tt) (sv : Value) (wr : World) : Prop where
  box : wr.heap[W.heap.size]? = some (.cells #[.int .i64 kk, .int .i64 n, .string s, sv] 25 (0, 0))
  res : wr.heap[W.heap.size + 1]? = some (.cells #[.int .i64 0, .int .i64 0, .string ⟨#[]⟩, .slice none 0 0] 25 (0, 0))
  own : Own TyR 4 wr (W.heap.size + 2) 25 sv us
  below : Below W.heap.size W wr
theorem CopyAt.size {W : World} {kk n : Int} {s : ByteArray} {us : List Tt} {sv : Value} {wr : World} (h : CopyAt W kk n s us sv wr) : W.heap.size + 2 ≤ wr.heap.size := by
  have := (Array.getElem?_eq_some_iff.1 h.res).1; omega
theorem CopyAt.cell {W : World} {kk n : Int} {s : ByteArray} {us : List Tt} {sv : Value} {wr w' : World} (h : CopyAt W kk n s us sv wr) (hb : Below wr.heap.size wr w') : w'.cell? ⟨W.heap.size, 3, none⟩ = some sv := by
  have h1 := h.size
  rw [cell_of_row w' W.heap.size 3 _ _ _ ((hb.block _ (by omega)).trans h.box)]; rfl
theorem own_slice {w : World} {base sz : Nat} {e : TypeId} {v : Value} {n : Nat} {cs : List Value} (h : w.ownsRow base e sz v n cs) : ∃ A m c, v = .slice A m c := by
  rcases h.2 with ⟨hv, h0⟩ | ⟨g, cap, cur, hv, _⟩
  · exact ⟨_, _, _, hv⟩
  · exact ⟨_, _, _, hv⟩
theorem new_cells (w : World) (cs : List Value) (t : TypeId) : ∀ j u, cs[j]? = some u → (w.alloc (.cells cs.toArray t)).cell? ((⟨w.heap.size, 0, none⟩ : Addr).add j) = some u := fun j u hu => by
  rw [Addr.add_mid, Nat.zero_add, cell_of_row _ _ j cs.toArray t (0, 0) (heap_alloc_new w _)]
  simpa using hu
theorem copy_cell {W : World} {kk n : Int} {s : ByteArray} {us : List Tt} {sv : Value} {wr w1 w2 : World} {rows : List (List Value)} (h : CopyAt W kk n s us sv wr) (hb : Below wr.heap.size wr w1) (ho : OwnRows TyR 4 w1 (W.heap.size + 2) 25 sv us rows) (hg : w1.grownBy w2 sv.ownBlock) :
    w2.cell? ⟨W.heap.size, 3, none⟩ = some sv ∧ w2.frozen? ⟨W.heap.size, 3, none⟩ = false := by
  have hz := h.size
  have hb1 : w2.heap[W.heap.size]? = some (.cells #[.int .i64 kk, .int .i64 n, .string s, sv] 25 (0, 0)) := by
    rw [hg.block _ (by have := hb.size; omega) (fun e => by have := (ho.2.2.1.lt _ e.symm).1; omega), hb.block _ (by omega)]; exact h.box
  exact ⟨by rw [cell_of_row w2 _ 3 _ _ _ hb1]; rfl, frozen_of_row w2 _ 3 _ _ hb1⟩
theorem copy_next {W : World} {kk n : Int} {s : ByteArray} {us : List Tt} {sv v' : Value} {wr w1 w2 : World} {rows : List (List Value)} {u : Tt} {A : Option Addr} {c : Nat} (h : CopyAt W kk n s us sv wr)
    (hb : Below wr.heap.size wr (w1.alloc (.cells #[.int .i64 u.kind, .int .i64 u.num, .string u.name, .slice A u.args.length c] 25))) (ho : OwnRows TyR 4 (w1.alloc (.cells #[.int .i64 u.kind, .int .i64 u.num, .string u.name, .slice A u.args.length c] 25)) (W.heap.size + 2) 25 sv us rows)
    (hown : w2.ownsRow (W.heap.size + 2) 25 4 v' (us.length + 1) (rows.flatten ++ [.int .i64 u.kind, .int .i64 u.num, .string u.name, .slice A u.args.length c])) (hg : (w1.alloc (.cells #[.int .i64 u.kind, .int .i64 u.num, .string u.name, .slice A u.args.length c] 25)).grownBy w2 sv.ownBlock)
    (hv : v'.ownBlock = sv.ownBlock ∨ v'.ownBlock = some (w1.alloc (.cells #[.int .i64 u.kind, .int .i64 u.num, .string u.name, .slice A u.args.length c] 25)).heap.size)
    (hd : TyR.rd w1 (New wr.drew.heap.size w1) u [.int .i64 u.kind, .int .i64 u.num, .string u.name, .slice A u.args.length c]) (hb1 : Below wr.drew.heap.size wr.drew w1) :
    CopyAt W kk n s (us ++ [u]) v' (w2.setCell ⟨W.heap.size, 3, none⟩ v') := by
  have hz := h.size
  have hz1 : wr.heap.size ≤ w1.heap.size := hb1.size
  obtain ⟨A', c', hsv, _, _⟩ := Own.form (R := TyR) ⟨rows, ho⟩
  have hne : ∀ k, k < W.heap.size + 2 → sv.ownBlock ≠ some k := fun k hk e => by have := (ho.2.2.1.lt _ e).1; omega
  have hlt : ∀ k, sv.ownBlock = some k → k < wr.heap.size := fun k e => by
    obtain ⟨r, hr⟩ := h.own
    exact (hr.2.2.1.lt _ e).2
  generalize hw : w1.alloc (.cells #[.int .i64 u.kind, .int .i64 u.num, .string u.name, .slice A u.args.length c] 25) = wa at *
  have hwz : wa.heap.size = w1.heap.size + 1 := by rw [← hw]; simp
  have hown2 : Own TyR 4 w2 (W.heap.size + 2) 25 v' (us ++ [u]) := by
    refine ho.snoc rfl ?_ hown hg hv
    have hk : Same (New wr.drew.heap.size w1) w1 wa := by rw [← hw]; exact Same.of_below (below_new _ _) fun b hb => hb.2
    refine TyR.more (fun b hb => ⟨?_, ?_, fun e => ?_⟩) (TyR.keep hk hd)
    · have : wr.heap.size ≤ b := hb.1; omega
    · have := hb.2; omega
    · have h1 : wr.heap.size ≤ b := hb.1
      have := hlt _ e; omega
  have hb2 : ∀ k, k < W.heap.size + 2 → w2.heap[k]? = wr.heap[k]? := fun k hk => by rw [hg.block _ (by omega) (fun e => hne k hk e.symm), hb.block _ (by omega)]
  have hbx := (hb2 W.heap.size (by omega)).trans h.box
  have hsz : w2.heap.size ≤ (w2.setCell ⟨W.heap.size, 3, none⟩ v').heap.size := by simp
  refine ⟨?_, ?_, ?_, ?_⟩
  · rw [heap_setCell_same w2 _ 3 _ _ _ hbx]; rfl
  · rw [heap_setCell_other w2 _ _ _ (by simp)]; exact (hb2 _ (by omega)).trans h.res
  · exact hown2.keep (fun k hk _ => heap_setCell_other w2 _ _ _ (by simp; omega)) hsz
  · refine ⟨?_, ?_, ?_, ?_, ?_⟩
    · exact hg.os.trans (hb.os.trans h.below.os)
    · exact hg.tape.trans (hb.tape.trans h.below.tape)
    · exact hg.output.trans (hb.output.trans h.below.output)
    · have := h.below.size; have := hg.size; omega
    · intro k hk
      rw [heap_setCell_other w2 _ _ _ (by simp; omega), hb2 k (by omega), h.below.block k hk]
theorem setRow_row {w : World} {g : Nat} {old cs : Array Value} {t : TypeId} {fr : Nat × Nat} (h : w.heap[g]? = some (.cells old t fr)) : (w.setRow g cs).heap[g]? = some (.cells cs t fr) := by
  unfold World.setRow
  simp only [Array.getElem?_modify, if_pos, h, Option.map_some]
theorem size_setRow (w : World) (g : Nat) (cs : Array Value) : (w.setRow g cs).heap.size = w.heap.size := by unfold World.setRow; simp
theorem setRow_old {w : World} {g k : Nat} {cs : Array Value} (h : k ≠ g) : (w.setRow g cs).heap[k]? = w.heap[k]? := by unfold World.setRow; rw [Array.getElem?_modify, if_neg (by omega)]
theorem copy_end {w w1 : World} {u : Tt} {cs : List Value} {r : Array Value} (h : TyR.rd w1 (New (w.heap.size + 2) w1) u cs) : TyR.rd (w1.setRow (w.heap.size + 1) r) (New w.heap.size (w1.setRow (w.heap.size + 1) r)) u cs :=
  TyR.more (S := New (w.heap.size + 2) w1) (fun b hb => ⟨by have := hb.1; omega, by rw [size_setRow]; exact hb.2⟩) (TyR.keep (fun b o hb => World.cell?_of_block (a := ⟨b, o, none⟩) (setRow_old (by have := hb.1; show b ≠ _; omega))) h)
theorem copy_below {w wr w1 : World} {r : Array Value} (h : Below w.heap.size w wr) (h1 : Below wr.heap.size wr w1) : Below w.heap.size w (w1.setRow (w.heap.size + 1) r) := by
  have h2 := below_then h h1
  exact ⟨h2.os, h2.tape, h2.output, by rw [size_setRow]; exact h2.size, fun k hk => (setRow_old (by omega)).trans (h2.block k hk)⟩
set_option maxHeartbeats 1000000 in
theorem copied_any {w0 : World} {f : Nat} {cap : Array Value} {g : Tt → Tt} (hG : Gives w0 f cap g) :
    ∀ (d : Nat) (k n : Int) (s : ByteArray) (l : List Tt) (A : Option Addr) (c : Nat) (w : World) (S : Nat → Prop), Below w0.heap.size w0 w → (∀ b, S b → b < w.heap.size) → TyRd w S d (.mk k n s l) [.int .i64 k, .int .i64 n, .string s, .slice A l.length c] →
      Calls Tryz.prog 60 #[.agg #[.int .i64 k, .int .i64 n, .string s, .slice A l.length c], .func (.func f) #[] cap] w (Made w w.heap.size (cp g (.mk k n s l))) := by
  intro d
  induction d with
  | zero => intro k n s l A c w S _ _ h; exact h.elim
  | succ d ih =>
    intro k n s l A c w S hb0 hS h
    obtain ⟨A', c', hcs, hn, hl, hs, hk⟩ := h
    simp only [List.cons.injEq, Value.slice.injEq, and_true, true_and] at hcs
    obtain ⟨rfl, rfl⟩ := hcs
    have HK := Lib.hid hk
    have HS := Lib.hid hS
    have HIH := Lib.hid ih
    have HG := Lib.hid hG.2
    have HB0 := Lib.hid hb0
    have hcf := hG.1
    clear hk hS ih hG hb0
    go_enter Tryz.func60, Tryz.ntmps60
    go_wp2_with fail
    go_loopw [12] (fun z wr => ∃ (k' : Nat) (sv : Value), k' ≤ l.length ∧ z = .int .i64 k' ∧ CopyAt w k n s ((l.take k').map (cp g)) sv wr) (fun z _ => l.length - (intOf z).toNat)
    case atStart => exact ⟨0, .slice none 0 0, Nat.zero_le _, rfl, heap_alloc2_old _ _ _, heap_alloc2_new _ _ _, Own.nil _ _ _ _ _, (below_new _ _).alloc (by simp) _⟩
    case round =>
      obtain ⟨k', sv, hk', rfl, hat⟩ := hrel
      have HAT := Lib.hid hat
      have hz := hat.size
      clear hat
      by_cases hlt : k' < l.length
      · obtain ⟨b, o, cs, rfl, hSb, hr, hd⟩ := HK.out k' _ (List.getElem?_eq_getElem hlt)
        obtain ⟨tk, htk⟩ : ∃ u, u = l[k'] := ⟨_, rfl⟩
        rw [← htk] at hd
        obtain ⟨k2, n2, s2, l2⟩ := tk
        cases d with
        | zero => exact hd.elim
        | succ d =>
        have hd0 := hd
        obtain ⟨A2, c2, rfl, _⟩ := hd
        have hwr := HAT.out.below
        have HR : Hid (∀ W', Below wr.heap.size wr W' → W'.rangeAt b (o + k' * 4) [.int .i64 k2, .int .i64 n2, .string s2, .slice A2 l2.length c2]) := Lib.hid fun W' hW => range_same hr (Same.of_below (hwr.trans (hW.mono (by omega))) HS.out) hSb
        have HC : Hid (∀ W', Below wr.heap.size wr W' → W'.cell? ⟨w.heap.size, 3, none⟩ = some sv) := Lib.hid fun W' hW => HAT.out.cell hW
        have HD : Hid (∀ W', Below wr.heap.size wr W' → Calls Tryz.prog 60 #[.agg #[.int .i64 k2, .int .i64 n2, .string s2, .slice A2 l2.length c2], .func (.func f) #[] cap] W' (Made W' W'.heap.size (cp g (.mk k2 n2 s2 l2)))) := Lib.hid fun W' hW => by
          have h1 : Below w.heap.size w W' := hwr.trans (hW.mono (by omega))
          have h2 := h1.size
          exact HIH.out k2 n2 s2 l2 A2 c2 W' S (below_then HB0.out h1) (fun b hb => by have := HS.out b hb; omega) (hd0.keep (Same.of_below h1 HS.out))
        have HT := Lib.hid htk
        clear hr hd0 htk hwr
        have g1 : k' < l.length := hlt
        go_wp2
        refine wp_region_K (fun w' => Below wr.heap.size wr w') (fun j => j != 9 && j != 11) (by kernel_rfl) ?_
        refine wpK_take0 (v := ?_) (a' := ?_) 0 rfl (by kernel_rfl) (by kernel_rfl) (by kernel_rfl) (by kernel_rfl) (fun _ _ _ h => h) ?_ ?_ ?_
        rotate_left 2
        · refine .inl ⟨by kernel_rfl, ?_⟩; intro wS hS; clear hS; go_simp; with_reducible rfl
        · go_simp; with_reducible rfl
        refine wpK_take (v := ?_) (a' := ?_) 1 rfl (by kernel_rfl) (by kernel_rfl) (by kernel_rfl) (by kernel_rfl) (by kernel_rfl) (fun _ _ _ h => h) (below_drew1 (Below.refl _ _)) ?_ ?_ ?_
        rotate_left 2
        · refine .inl ⟨by kernel_rfl, ?_⟩; intro wS hS; have q1 := HC.out _ hS; go_simp; with_reducible rfl
        · go_simp; with_reducible rfl
        refine wpK_take0 (v := ?_) (a' := ?_) 2 rfl (by kernel_rfl) (by kernel_rfl) (by kernel_rfl) (by kernel_rfl) (fun _ _ _ h => h) ?_ ?_ ?_
        rotate_left 2
        · refine .inl ⟨by kernel_rfl, ?_⟩; intro wS hS; clear hS; go_simp; with_reducible rfl
        · go_simp; with_reducible rfl
        refine wpK_take0 (v := ?_) (a' := ?_) 3 rfl (by kernel_rfl) (by kernel_rfl) (by kernel_rfl) (by kernel_rfl) (fun _ _ _ h => h) ?_ ?_ ?_
        rotate_left 2
        · refine .inl ⟨by kernel_rfl, ?_⟩; intro wS hS; clear hS; go_simp; with_reducible rfl
        · go_simp; with_reducible rfl
        refine wpK_take0 (v := ?_) (a' := ?_) 4 rfl (by kernel_rfl) (by kernel_rfl) (by kernel_rfl) (by kernel_rfl) (fun _ _ _ h => h) ?_ ?_ ?_
        rotate_left 2
        · refine .inl ⟨by kernel_rfl, ?_⟩; intro wS hS; clear hS; go_simp; with_reducible rfl
        · go_simp; with_reducible rfl
        refine wpK_take (v := (.agg #[.int .i64 k2, .int .i64 n2, .string s2, .slice A2 l2.length c2])) (a' := ?_) 5 rfl (by kernel_rfl) (by kernel_rfl) (by kernel_rfl) (by kernel_rfl) (by kernel_rfl) (fun _ _ _ h => h) (below_drew1 (Below.refl _ _)) ?_ ?_ ?_
        rotate_left 1
        · exact yieldsIf_load_mid (by kernel_rfl) 25 (.tmp 19) rfl b (o + k' * 4) (by go_simp) _ _ (fun wS hS => HR.out _ hS) Tryz.underlying25 rfl (tySize _ _ _ _)
        · go_simp; with_reducible rfl
        refine wpK_take0 (v := ?_) (a' := ?_) 6 rfl (by kernel_rfl) (by kernel_rfl) (by kernel_rfl) (by kernel_rfl) (fun _ _ _ h => h) ?_ ?_ ?_
        rotate_left 2
        · refine .inl ⟨by kernel_rfl, ?_⟩; intro wS hS; clear hS; go_simp; with_reducible rfl
        · go_simp; with_reducible rfl
        refine wpK_one 7 rfl (by kernel_rfl) (fun K hK => ?_)
        have HKK := Lib.hid hK
        clear hK
        go_wp2_with fail
        refine (HD.out _ (below_drew1 (Below.refl _ _))).mono ?_
        rintro e w1 ⟨A3, c3, rfl, h3, hb1⟩
        have HM := Lib.hid (And.intro h3 hb1)
        have hz1 : wr.heap.size ≤ w1.heap.size := hb1.size
        clear h3 hb1
        go_wp2
        refine HKK.out _ _ (fun _ hS => hS.trans (HM.out.2.mono (by simp))) ?_
        refine wpK_one 8 rfl (by kernel_rfl) (fun K hK => ?_)
        have HKK := Lib.hid hK
        clear hK
        go_wp2
        refine HKK.out _ _ (fun _ hS => hS.trans ((below_new _ _).mono hS.size)) ?_
        refine wpK_one 9 rfl (by kernel_rfl) (fun K hK => ?_)
        have HKK := Lib.hid hK
        clear hK
        have hbw : Below wr.heap.size wr (w1.alloc (.cells #[.int .i64 (cp g (.mk k2 n2 s2 l2)).kind, .int .i64 (cp g (.mk k2 n2 s2 l2)).num, .string (cp g (.mk k2 n2 s2 l2)).name, .slice A3 (cp g (.mk k2 n2 s2 l2)).args.length c3] 25)) :=
          (below_drew1 (Below.refl wr.heap.size wr)).trans ((HM.out.2.mono (by simp)).trans ((below_new _ _).mono hz1))
        obtain ⟨rows, hrows⟩ := HAT.out.own.below hbw
        have HRO := Lib.hid hrows
        have HBW := Lib.hid hbw
        obtain ⟨i0, hi, hi0, hi1, hi2⟩ := info_parts tyInfo
        have HI := Lib.hid (And.intro hi (And.intro hi0 (And.intro hi1 hi2)))
        clear hi hi0 hi1 hi2 hrows hbw
        have hus : ((l.take k').map (cp g)).length = k' := by rw [List.length_map, List.length_take]; omega
        refine wpList_append_own_at _ rfl (.tmp 16) (.tmp 23) 23 rfl (w.heap.size + 2) 25 i0 (.agg #[.int .i64 0, .int .i64 0, .string ⟨#[]⟩, .slice none 0 0]) 4 56 Tryz.underlying23 HI.out.1 HI.out.2.1 HI.out.2.2.1 HI.out.2.2.2 rfl (by decide)
          sv ((l.take k').map (cp g)).length rows.flatten rfl HRO.out.2.2.1 ⟨w1.heap.size, 0, none⟩ 1 1 [.int .i64 (cp g (.mk k2 n2 s2 l2)).kind, .int .i64 (cp g (.mk k2 n2 s2 l2)).num, .string (cp g (.mk k2 n2 s2 l2)).name, .slice A3 (cp g (.mk k2 n2 s2 l2)).args.length c3] rfl rfl ?c1 ?c2 ?c3 ?c4 ?c5 ?_
        case c1 => exact new_cells _ _ _
        case c2 => simp [Value.oneCell']
        case c3 => rw [hus]; unfold maxLen; omega
        case c4 => rw [hus]; omega
        case c5 => simp; omega
        intro v' w2 hown2 hgrow _ hv'
        obtain ⟨A4, n4, c4, rfl⟩ := own_slice hown2
        have HO := Lib.hid (And.intro hown2 (And.intro hgrow hv'))
        clear hown2 hgrow hv' hus
        refine wpList_nil ?_
        refine HKK.out _ _ (fun h => absurd h (by decide)) ?_
        refine wpK_one 10 rfl (by kernel_rfl) (fun K hK => ?_)
        have HKK := Lib.hid hK
        clear hK
        go_wp2
        refine HKK.out _ _ (fun _ hS => hS) ?_
        refine wpK_one 11 rfl (by kernel_rfl) (fun K hK => ?_)
        have HKK := Lib.hid hK
        clear hK
        obtain ⟨e1, e2⟩ := copy_cell HAT.out HBW.out HRO.out HO.out.2.1
        go_wp2
        refine HKK.out _ _ (fun h => absurd h (by decide)) ?_
        refine wpK_end (by kernel_rfl) ?_ _
        have HN := Lib.hid (copy_next HAT.out HBW.out HRO.out HO.out.1 HO.out.2.1 HO.out.2.2 HM.out.1 HM.out.2)
        clear HKK HO HRO HI HBW HD HR HC HM e1 e2
        go_wp2
        go_roundw
        case rel => exact ⟨k' + 1, _, by omega, by go_num, by rw [take_map _ _ _ hlt, ← HT.out]; exact HN.out⟩
        case measure => simp [intOf]; omega
      · obtain rfl : k' = l.length := by omega
        rw [List.take_length] at HAT
        obtain ⟨A5, c5, hsv, _, _⟩ := HAT.out.own.form
        rw [List.length_map] at hsv
        subst hsv
        have hrd : TyR.rd wr (New (w.heap.size + 2) wr) (.mk k n s (l.map (cp g))) [.int .i64 k, .int .i64 n, .string s, .slice A5 l.length c5] := by
          have := HAT.out.own
          have h1 := TyR.mk (w := wr) (S := New (w.heap.size + 2) wr) (k := k) (n := n) (s := s) (l := l.map (cp g)) (A := A5) (c := c5) hn (by rw [List.length_map]; exact hl) hs (Own.rows (c := c5) (by rw [List.length_map]; exact HAT.out.own))
          rw [List.length_map] at h1; exact h1
        have HRD := Lib.hid hrd
        clear hrd
        have q0 : wr.cell? ⟨w.heap.size, 0, none⟩ = some (.int .i64 k) := by rw [cell_of_row wr _ 0 _ _ _ HAT.out.box]; rfl
        by_cases hk1 : k = 1
        · have hC : Calls Tryz.prog f (#[.agg #[.int .i64 k, .int .i64 n, .string s, .slice A5 l.length c5]] ++ cap) wr (Made wr (w.heap.size + 2) (g (.mk k n s (l.map (cp g))))) := by
            have := HG.out wr (.mk k n s (l.map (cp g))) A5 c5 (w.heap.size + 2) (below_then HB0.out HAT.out.below) (by have := HB0.out.size; omega) hz hk1 (by simpa only [Tt.kind, Tt.num, Tt.name, Tt.args, List.length_map] using HRD.out)
            simpa only [Tt.kind, Tt.num, Tt.name, Tt.args, List.length_map] using this
          have HC := Lib.hid hC
          have HE := Lib.hid (cp_var (g := g) (k := k) (n := n) (s := s) (l := l) hk1)
          have e1 : (k == 1) = true := by simpa using hk1
          clear hC hk1
          go_wp2_with (refine wpList_load_row rfl 25 _ rfl w.heap.size rfl 25 #[.int .i64 k, .int .i64 n, .string s, .slice A5 l.length c5] (0, 0) _ HAT.out.box Tryz.underlying25 rfl (tySizeA _ _ _ _) ?_)
          refine HC.out.mono ?_
          rintro e w1 ⟨A6, c6, rfl, h6, hb6⟩
          have HM := Lib.hid (And.intro h6 hb6)
          clear h6 hb6
          go_wp2_with (refine wpList_store_row rfl 25 _ _ rfl (w.heap.size + 1) _ rfl rfl 25 #[.int .i64 0, .int .i64 0, .string ⟨#[]⟩, .slice none 0 0] ((HM.out.2.block _ (by have := HAT.out.size; omega)).trans HAT.out.res) (tySizeA _ _ _ _) rfl (one4 _ _ _ _ _ _) ?_)
          refine bodyPost_ret (v := .agg #[.int .i64 (g (.mk k n s (l.map (cp g)))).kind, .int .i64 (g (.mk k n s (l.map (cp g)))).num, .string (g (.mk k n s (l.map (cp g)))).name, .slice A6 (g (.mk k n s (l.map (cp g)))).args.length c6]) (results_cell_row rfl _ _ (w.heap.size + 1) 25 _ (0, 0) _ rfl (setRow_row ((HM.out.2.block _ (by have := HAT.out.size; omega)).trans HAT.out.res)) Tryz.underlying25 rfl (tySizeA _ _ _ _)) rfl ?_
          rw [HE.out]
          exact ⟨A6, c6, rfl, copy_end HM.out.1, copy_below HAT.out.below HM.out.2⟩
        · have HE := Lib.hid (cp_con (g := g) (n := n) (s := s) (l := l) hk1)
          have e1 : (k == 1) = false := by simpa using hk1
          clear hk1
          go_wp2_with (first | (refine wpList_load_row rfl 25 _ rfl w.heap.size rfl 25 #[.int .i64 k, .int .i64 n, .string s, .slice A5 l.length c5] (0, 0) _ HAT.out.box Tryz.underlying25 rfl (tySizeA _ _ _ _) ?_) | (refine wpList_store_row rfl 25 _ _ rfl (w.heap.size + 1) _ rfl rfl 25 #[.int .i64 0, .int .i64 0, .string ⟨#[]⟩, .slice none 0 0] HAT.out.res (tySizeA _ _ _ _) rfl (one4 _ _ _ _ _ _) ?_))
          refine bodyPost_ret (v := .agg #[.int .i64 k, .int .i64 n, .string s, .slice A5 l.length c5]) (results_cell_row rfl _ _ (w.heap.size + 1) 25 _ (0, 0) _ rfl (setRow_row HAT.out.res) Tryz.underlying25 rfl (tySizeA _ _ _ _)) rfl ?_
          rw [HE.out]
          refine ⟨A5, c5, by simp only [Tt.kind, Tt.num, Tt.name, Tt.args, List.length_map], ?_, copy_below HAT.out.below (Below.refl _ _)⟩
          simp only [Tt.kind, Tt.num, Tt.name, Tt.args, List.length_map]
          exact copy_end HRD.out
end Go.Proofs.YtoopopjcojphaaaGreatDoor
/-
  THE REFERENCE's NAMES.
-/
namespace Go.Proofs.YtoopopjcojphaaaGreatDoor
open Go.ChangeShapes Go.WideShapes Go.ChangeAt Go.RowKit
set_option linter.unusedVariables false
theorem bytes_eq (a b : ByteArray) : a.toList = b.toList ↔ a = b := by
  constructor
  · intro h
    rw [ByteArray.toList_eq, ByteArray.toList_eq] at h
    exact ByteArray.ext (Array.toList_inj.1 h)
  · rintro rfl; rfl
theorem rest_any (c : Nat) (hc : c < 256) (b : Bool) (hb : restB c = b) (w : World) : Calls Tryz.prog 108 #[.int .u8 c] w fun e w' => e = .returned (.bool b) ∧ w = w' := by
  have HB := Lib.hid hb
  clear hb
  go_enter Tryz.func108, Tryz.ntmps108
  go_wp2
  all_goals go_ret
  all_goals refine ⟨ret_bool ?_, rfl⟩
  all_goals (rw [← HB.out]; unfold restB)
  all_goals (rw [Bool.eq_iff_iff]; simp; omega)
theorem letter_any (c : Nat) (hc : c < 256) (cap : Bool) (b : Bool) (hb : letB c cap = b) (w : World) : Calls Tryz.prog 107 #[.int .u8 c, .bool cap] w fun e w' => e = .returned (.bool b) ∧ w = w' := by
  have HB := Lib.hid hb
  clear hb
  cases cap
  all_goals
    go_enter Tryz.func107, Tryz.ntmps107
    go_wp2
  all_goals go_ret
  all_goals refine ⟨ret_bool ?_, rfl⟩
  all_goals (rw [← HB.out]; unfold letB)
  all_goals (rw [Bool.eq_iff_iff]; simp; try omega)
theorem all_upto {s : ByteArray} {k : Nat} (h : ∀ i, 1 ≤ i → i < k → restB (bt s i) = true) (hk : k = s.size) : ((List.range s.size).all fun i => i == 0 || restB (bt s i)) = true := by
  rw [List.all_eq_true]
  intro i hi
  have := List.mem_range.1 hi
  by_cases h0 : i = 0
  · simp [h0]
  · rw [h i (by omega) (by omega)]; simp
theorem not_all {s : ByteArray} {k : Nat} (h1 : 1 ≤ k) (h2 : k < s.size) (h : restB (bt s k) = false) : ((List.range s.size).all fun i => i == 0 || restB (bt s i)) = false := by
  rw [Bool.eq_false_iff]
  intro ha
  have := List.all_eq_true.1 ha k (List.mem_range.2 h2)
  simp [h, show k ≠ 0 by omega] at this
set_option maxHeartbeats 1000000 in
theorem shaped_any (s : ByteArray) (hs : s.size ≤ 1048576) (cap : Bool) (b : Bool) (hb : shapedB s cap = b) (w : World) : Calls Tryz.prog 97 #[.string s, .bool cap] w fun e w' => e = .returned (.bool b) ∧ w = w' := by
  have HB := Lib.hid hb
  clear hb
  by_cases h1 : 1 ≤ s.size
  case neg =>
    have q1 : ((s.size : Int) < 1) := by omega
    have e : b = false := by rw [← HB.out]; simp [shapedB, show ¬ 1 ≤ s.size from h1]
    subst e
    go_enter Tryz.func97, Tryz.ntmps97
    go_wp2
    go_ret
    exact ⟨rfl, rfl⟩
  by_cases h2 : s.size ≤ 32
  case neg =>
    have q1 : (32 < (s.size : Int)) := by omega
    have e : b = false := by rw [← HB.out]; simp [shapedB, h2]
    subst e
    go_enter Tryz.func97, Tryz.ntmps97
    go_wp2
    go_ret
    exact ⟨rfl, rfl⟩
  have h0 : 0 < s.size := h1
  have hbt := bt_in h0
  have hlt : s[0].toNat < 256 := UInt8.toNat_lt _
  cases hl : letB (bt s 0) cap
  case false =>
    have HL := Lib.hid (hbt ▸ hl)
    have e : b = false := by rw [← HB.out]; simp [shapedB, hl]
    subst e
    clear hbt hl
    go_enter Tryz.func97, Tryz.ntmps97
    go_wp2_with (go_at_call 107; refine (letter_any _ hlt _ _ HL.out _).mono ?_; rintro e w' ⟨rfl, rfl⟩)
    go_ret
    exact ⟨rfl, rfl⟩
  have HL := Lib.hid (hbt ▸ hl)
  have HE : Hid (shapedB s cap = ((List.range s.size).all fun i => i == 0 || restB (bt s i))) := Lib.hid (by simp only [shapedB, h1, h2, hl, decide_true, Bool.true_and])
  clear hbt hl
  go_enter Tryz.func97, Tryz.ntmps97
  go_wp2_with (go_at_call 107; refine (letter_any _ hlt _ _ HL.out _).mono ?_; rintro e w' ⟨rfl, rfl⟩)
  go_loop [5] (fun z => ∃ k : Nat, 1 ≤ k ∧ k ≤ s.size ∧ z = .int .i64 k ∧ ∀ i, 1 ≤ i → i < k → restB (bt s i) = true) (fun z => s.size - (intOf z).toNat)
  case atStart => exact ⟨1, Nat.le_refl _, h1, rfl, fun i a b => by omega⟩
  case round =>
    obtain ⟨k, hk1, hk, rfl, hall⟩ := hrel
    have HA := Lib.hid hall
    clear hall
    by_cases hkl : k < s.size
    · have hbk := bt_in hkl
      have hlk : s[k].toNat < 256 := UInt8.toNat_lt _
      cases hr : restB (bt s k)
      · have HR := Lib.hid (hbk ▸ hr)
        have HRR := Lib.hid hr
        clear hbk hr
        go_wp2_with (go_at_call 108; refine (rest_any _ hlk _ HR.out _).mono ?_; rintro e w' ⟨rfl, rfl⟩)
        go_ret
        exact ⟨ret_bool (by rw [← HB.out, HE.out, not_all hk1 hkl HRR.out]), rfl⟩
      · have HR := Lib.hid (hbk ▸ hr)
        have HRR := Lib.hid hr
        clear hbk hr
        go_wp2_with (go_at_call 108; refine (rest_any _ hlk _ HR.out _).mono ?_; rintro e w' ⟨rfl, rfl⟩)
        go_round
        case rel => exact ⟨k + 1, by omega, by omega, by go_num, fun i a b => by
          by_cases h : i = k
          · rw [h]; exact HRR.out
          · exact HA.out i a (by omega)⟩
        case measure => simp [intOf]; omega
    · obtain rfl : k = s.size := by omega
      go_wp2
      go_ret
      exact ⟨ret_bool (by rw [← HB.out, HE.out, all_upto HA.out rfl]), rfl⟩
/-- From A on lie the texts of l. -/
def StrsAt (w : World) (B : Nat) (A : Option Addr) (l : List ByteArray) : Prop := ∀ (k : Nat) (x : ByteArray), l[k]? = some x → ∃ b o, A = some ⟨b, o, none⟩ ∧ b < B ∧ w.cell? ⟨b, o + k, none⟩ = some (.string x)
theorem StrsAt.on {w w' : World} {B : Nat} {A : Option Addr} {l : List ByteArray} (h : StrsAt w B A l) (hb : Below B w w') : StrsAt w' B A l := fun k x hx => by
  obtain ⟨b, o, e, hB, hc⟩ := h k x hx
  exact ⟨b, o, e, hB, (hb.cell (p := ⟨b, o + k, none⟩) hB).trans hc⟩
theorem among_any (s : ByteArray) (l : List ByteArray) (A : Option Addr) (c : Nat) (hl : l.length ≤ 1048576) (w : World) (B : Nat) (h : StrsAt w B A l) :
    Calls Tryz.prog 98 #[.string s, .slice A l.length c] w fun e w' => e = .returned (.bool (l.any fun t => decide (t = s))) ∧ w = w' := by
  have HA := Lib.hid h
  clear h
  go_enter Tryz.func98, Tryz.ntmps98
  go_wp2
  go_loop [5] (fun z => ∃ k : Nat, k ≤ l.length ∧ z = .int .i64 k ∧ ((l.take k).any fun t => decide (t = s)) = false) (fun z => l.length - (intOf z).toNat)
  case atStart => exact ⟨0, Nat.zero_le _, rfl, rfl⟩
  case round =>
    obtain ⟨k, hk, rfl, hno⟩ := hrel
    have HN := Lib.hid hno
    clear hno
    by_cases hlt : k < l.length
    · obtain ⟨b, o, rfl, _, hc⟩ := HA.out k _ (List.getElem?_eq_getElem hlt)
      by_cases he : l[k] = s
      · have q : (l[k].toList == s.toList) = true := by rw [he]; simp
        have HE := Lib.hid he
        clear he
        go_wp2
        go_ret
        exact ⟨ret_bool (by
          symm; rw [List.any_eq_true]
          exact ⟨l[k], List.getElem_mem hlt, by simpa using HE.out⟩), rfl⟩
      · have q : (l[k].toList == s.toList) = false := by simpa [bytes_eq] using he
        have HE := Lib.hid he
        clear he
        go_wp2
        go_round
        case rel => exact ⟨k + 1, by omega, by go_num, by
          rw [List.take_succ_eq_append_getElem hlt, List.any_append, HN.out]
          simp [HE.out]⟩
        case measure => simp [intOf]; omega
    · obtain rfl : k = l.length := by omega
      go_wp2
      go_ret
      exact ⟨ret_bool (by have := HN.out; rw [List.take_length] at this; rw [this]), rfl⟩
theorem words_any (w : World) : Calls Tryz.prog 99 #[] w fun e w' => e = .returned (.slice (some ⟨w.heap.size, 0, none⟩) 24 24) ∧ StrsAt w' w'.heap.size (some ⟨w.heap.size, 0, none⟩) wordsL ∧ Below w.heap.size w w' := by
  go_enter Tryz.func99, Tryz.ntmps99
  go_wp2
  go_ret
  refine ⟨rfl, fun k x hx => ⟨w.heap.size, 0, rfl, by simp, ?_⟩, below_new _ _⟩
  rw [Nat.zero_add, cell_of_row _ _ k _ _ _ (heap_alloc_new w _)]
  show (wordsL.map Value.string).toArray[k]? = _
  rw [List.getElem?_toArray, List.getElem?_map, hx]; rfl
theorem str_is (s : ByteArray) (l : List UInt8) : s.toList = l ↔ s = ⟨l.toArray⟩ := by
  rw [ByteArray.toList_eq]
  constructor
  · intro h; exact ByteArray.ext (by rw [← h])
  · rintro rfl; rfl
theorem str_yes {s : ByteArray} {l : List UInt8} (h : s = ⟨l.toArray⟩) : (s.toList == l) = true := by rw [beq_iff_eq]; exact (str_is s l).2 h
theorem str_no {s : ByteArray} {l : List UInt8} (h : s ≠ ⟨l.toArray⟩) : (s.toList == l) = false := by rw [beq_eq_false_iff_ne]; exact fun e => h ((str_is s l).1 e)
theorem low_any (s : ByteArray) (hs : s.size ≤ 1048576) (w : World) : Calls Tryz.prog 84 #[.string s] w fun e w' => e = .returned (.bool (lowB s)) ∧ Below w.heap.size w w' := by
  have HE : Hid (lowB s = (shapedB s false && decide (s ≠ ⟨#[95]⟩) && decide (s ≠ ⟨#[116, 114, 117, 101]⟩) && decide (s ≠ ⟨#[102, 97, 108, 115, 101]⟩) && !wordsL.any fun t => decide (t = s))) := Lib.hid rfl
  cases h1 : shapedB s false
  case false =>
    have H1 := Lib.hid h1
    clear h1
    go_enter Tryz.func84, Tryz.ntmps84
    go_wp2_with (go_at_call 97; refine (shaped_any s hs _ _ H1.out _).mono ?_; rintro e w' ⟨rfl, rfl⟩)
    go_ret
    exact ⟨ret_bool (by rw [HE.out, H1.out]; rfl), Below.refl _ _⟩
  have H1 := Lib.hid h1
  clear h1
  by_cases e1 : s = ⟨#[95]⟩
  case pos =>
    have q := str_yes e1
    have HN := Lib.hid e1
    clear e1
    go_enter Tryz.func84, Tryz.ntmps84
    go_wp2_with (go_at_call 97; refine (shaped_any s hs _ _ H1.out _).mono ?_; rintro e w' ⟨rfl, rfl⟩)
    go_ret
    exact ⟨ret_bool (by rw [HE.out]; simp [HN.out]), Below.refl _ _⟩
  have e1' := str_no e1
  have He1 := Lib.hid e1
  clear e1
  by_cases e2 : s = ⟨#[116, 114, 117, 101]⟩
  case pos =>
    have q := str_yes e2
    have HN := Lib.hid e2
    clear e2
    go_enter Tryz.func84, Tryz.ntmps84
    go_wp2_with (go_at_call 97; refine (shaped_any s hs _ _ H1.out _).mono ?_; rintro e w' ⟨rfl, rfl⟩)
    go_ret
    exact ⟨ret_bool (by rw [HE.out]; simp [HN.out]), Below.refl _ _⟩
  have e2' := str_no e2
  have He2 := Lib.hid e2
  clear e2
  by_cases e3 : s = ⟨#[102, 97, 108, 115, 101]⟩
  case pos =>
    have q := str_yes e3
    have HN := Lib.hid e3
    clear e3
    go_enter Tryz.func84, Tryz.ntmps84
    go_wp2_with (go_at_call 97; refine (shaped_any s hs _ _ H1.out _).mono ?_; rintro e w' ⟨rfl, rfl⟩)
    go_ret
    exact ⟨ret_bool (by rw [HE.out]; simp [HN.out]), Below.refl _ _⟩
  have e3' := str_no e3
  have He3 := Lib.hid e3
  clear e3
  have HE2 : Hid (lowB s = !wordsL.any fun t => decide (t = s)) := Lib.hid (by rw [HE.out, H1.out, decide_eq_true He1.out, decide_eq_true He2.out, decide_eq_true He3.out]; rfl)
  go_enter Tryz.func84, Tryz.ntmps84
  go_wp2_with (first | (go_at_call 97; refine (shaped_any s hs _ _ H1.out _).mono ?_; rintro e w' ⟨rfl, rfl⟩) | (go_at_call 99; refine (words_any _).mono ?_; rintro e w1 ⟨rfl, hst, hb⟩; have HST := Lib.hid (And.intro hst hb); clear hst hb) | (go_at_call 98; refine (among_any s wordsL _ 24 (by decide) _ _ HST.out.1).mono ?_; rintro e w' ⟨rfl, rfl⟩))
  go_ret
  exact ⟨ret_bool (by rw [HE2.out]), HST.out.2⟩
/-- How many arguments, at least and at most. -/
theorem args_any (s : ByteArray) (w : World) : Calls Tryz.prog 85 #[.string s] w fun e w' => e = .returned (.tuple #[.int .i64 (argsB s).1, .int .i64 (argsB s).2]) ∧ w = w' := by
  have HE : Hid (argsB s = (if s = ⟨#[105, 110, 116]⟩ ∨ s = ⟨#[98, 111, 111, 108]⟩ ∨ s = ⟨#[117, 110, 105, 116]⟩ ∨ s = ⟨#[101, 120, 110]⟩ then (0, 0) else if s = ⟨#[114, 101, 102]⟩ then (1, 1) else if s = ⟨#[45, 62]⟩ then (2, 2) else if s = ⟨#[42]⟩ then (2, 8) else (0, 8))) := Lib.hid rfl
  by_cases a1 : s = ⟨#[105, 110, 116]⟩
  case pos =>
    have q := str_yes a1
    have HN := Lib.hid a1
    clear a1
    go_enter Tryz.func85, Tryz.ntmps85
    go_wp2
    go_ret2
    exact ⟨by rw [HE.out]; rw [HN.out]; rfl, rfl⟩
  have a1' := str_no a1
  have Ha1 := Lib.hid a1
  clear a1
  by_cases a2 : s = ⟨#[98, 111, 111, 108]⟩
  case pos =>
    have q := str_yes a2
    have HN := Lib.hid a2
    clear a2
    go_enter Tryz.func85, Tryz.ntmps85
    go_wp2
    go_ret2
    exact ⟨by rw [HE.out]; rw [HN.out]; rfl, rfl⟩
  have a2' := str_no a2
  have Ha2 := Lib.hid a2
  clear a2
  by_cases a3 : s = ⟨#[117, 110, 105, 116]⟩
  case pos =>
    have q := str_yes a3
    have HN := Lib.hid a3
    clear a3
    go_enter Tryz.func85, Tryz.ntmps85
    go_wp2
    go_ret2
    exact ⟨by rw [HE.out]; rw [HN.out]; rfl, rfl⟩
  have a3' := str_no a3
  have Ha3 := Lib.hid a3
  clear a3
  by_cases a4 : s = ⟨#[101, 120, 110]⟩
  case pos =>
    have q := str_yes a4
    have HN := Lib.hid a4
    clear a4
    go_enter Tryz.func85, Tryz.ntmps85
    go_wp2
    go_ret2
    exact ⟨by rw [HE.out]; rw [HN.out]; rfl, rfl⟩
  have a4' := str_no a4
  have Ha4 := Lib.hid a4
  clear a4
  by_cases a5 : s = ⟨#[114, 101, 102]⟩
  case pos =>
    have q := str_yes a5
    have HN := Lib.hid a5
    clear a5
    go_enter Tryz.func85, Tryz.ntmps85
    go_wp2
    go_ret2
    exact ⟨by rw [HE.out]; rw [HN.out]; rfl, rfl⟩
  have a5' := str_no a5
  have Ha5 := Lib.hid a5
  clear a5
  by_cases a6 : s = ⟨#[45, 62]⟩
  case pos =>
    have q := str_yes a6
    have HN := Lib.hid a6
    clear a6
    go_enter Tryz.func85, Tryz.ntmps85
    go_wp2
    go_ret2
    exact ⟨by rw [HE.out]; rw [HN.out]; rfl, rfl⟩
  have a6' := str_no a6
  have Ha6 := Lib.hid a6
  clear a6
  by_cases a7 : s = ⟨#[42]⟩
  case pos =>
    have q := str_yes a7
    have HN := Lib.hid a7
    clear a7
    go_enter Tryz.func85, Tryz.ntmps85
    go_wp2
    go_ret2
    exact ⟨by rw [HE.out]; rw [HN.out]; rfl, rfl⟩
  have a7' := str_no a7
  have Ha7 := Lib.hid a7
  clear a7
  go_enter Tryz.func85, Tryz.ntmps85
  go_wp2
  go_ret2
  exact ⟨by rw [HE.out, if_neg (by simp [Ha1.out, Ha2.out, Ha3.out, Ha4.out]), if_neg Ha5.out, if_neg Ha6.out, if_neg Ha7.out]; rfl, rfl⟩
end Go.Proofs.YtoopopjcojphaaaGreatDoor
/-
  ARE TWO TYPES THE SAME: the program's answer and the reference's.
-/
namespace Go.Proofs.YtoopopjcojphaaaGreatDoor
open Go.ChangeShapes Go.WideShapes Go.ChangeAt Go.RowKit
set_option linter.unusedVariables false
set_option maxHeartbeats 1000000 in
theorem same_any : ∀ (d : Nat) (k n : Int) (s : ByteArray) (l : List Tt) (A : Option Addr) (c : Nat) (k' n' : Int) (s' : ByteArray) (l' : List Tt) (A' : Option Addr) (c' : Nat) (w : World) (S : Nat → Prop), (∀ b, S b → b < w.heap.size) →
    TyRd w S d (.mk k n s l) [.int .i64 k, .int .i64 n, .string s, .slice A l.length c] → TyR.rd w S (.mk k' n' s' l') [.int .i64 k', .int .i64 n', .string s', .slice A' l'.length c'] →
    Calls Tryz.prog 45 #[.agg #[.int .i64 k, .int .i64 n, .string s, .slice A l.length c], .agg #[.int .i64 k', .int .i64 n', .string s', .slice A' l'.length c']] w fun e w' => e = .returned (.bool (sameT (.mk k n s l) (.mk k' n' s' l'))) ∧ Below w.heap.size w w' := by
  intro d
  induction d with
  | zero => intro k n s l A c k' n' s' l' A' c' w S _ h; exact h.elim
  | succ d ih =>
    intro k n s l A c k' n' s' l' A' c' w S hS h h'
    obtain ⟨A1, c1, hcs, hn, hl, hs, hk⟩ := h
    simp only [List.cons.injEq, Value.slice.injEq, and_true, true_and] at hcs
    obtain ⟨rfl, rfl⟩ := hcs
    obtain ⟨A1, c1, hcs, hn', hl', hs', hk'⟩ := (TyR.open_ h')
    simp only [Tt.kind, Tt.num, Tt.name, Tt.args, List.cons.injEq, Value.slice.injEq, and_true, true_and] at hcs hn' hl' hs' hk'
    obtain ⟨rfl, rfl⟩ := hcs
    have HK := Lib.hid hk
    have HK' := Lib.hid hk'
    have HS := Lib.hid hS
    have HIH := Lib.hid ih
    have HE : Hid (sameT (.mk k n s l) (.mk k' n' s' l') = (decide (k = k') && decide (n = n') && decide (s = s') && decide (l.length = l'.length) && sameL l l')) := Lib.hid (by rw [sameT])
    clear hk hk' hS ih h' hn hn' hs hs'
    by_cases e1 : k = k'
    case neg =>
      have q1 : (k != k') = true := by simpa using e1
      have HN := Lib.hid e1
      clear e1
      go_enter Tryz.func45, Tryz.ntmps45
      go_wp2
      go_ret
      exact ⟨ret_bool (by rw [HE.out]; simp [HN.out]), ((below_new _ _).alloc (by simp) _)⟩
    have q1 : (k != k') = false := by simpa using e1
    by_cases e2 : n = n'
    case neg =>
      have q2 : (n != n') = true := by simpa using e2
      have HN := Lib.hid e2
      clear e1 e2
      go_enter Tryz.func45, Tryz.ntmps45
      go_wp2
      go_ret
      exact ⟨ret_bool (by rw [HE.out]; simp [HN.out]), ((below_new _ _).alloc (by simp) _)⟩
    have q2 : (n != n') = false := by simpa using e2
    by_cases e3 : s = s'
    case neg =>
      have q3 : (s.toList == s'.toList) = false := by simpa [bytes_eq] using e3
      have HN := Lib.hid e3
      clear e1 e2 e3
      go_enter Tryz.func45, Tryz.ntmps45
      go_wp2
      go_ret
      exact ⟨ret_bool (by rw [HE.out]; simp [HN.out]), ((below_new _ _).alloc (by simp) _)⟩
    have q3 : (s.toList == s'.toList) = true := by rw [e3]; simp
    by_cases e4 : l.length = l'.length
    case neg =>
      have q4 : ((l.length : Int) != l'.length) = true := by simpa using (by omega : (l.length : Int) ≠ l'.length)
      have HN := Lib.hid e4
      clear e1 e2 e3 e4
      go_enter Tryz.func45, Tryz.ntmps45
      go_wp2
      go_ret
      exact ⟨ret_bool (by rw [HE.out]; simp [HN.out]), ((below_new _ _).alloc (by simp) _)⟩
    have q4 : ((l.length : Int) != l'.length) = false := by rw [e4]; simp
    rw [decide_eq_true e1, decide_eq_true e2, decide_eq_true e3, decide_eq_true e4] at HE
    have HL := Lib.hid e4
    clear e1 e2 e3 e4
    have hbx : ∀ W', Below (w.heap.size + 2) ((w.alloc (.cells #[.int .i64 k, .int .i64 n, .string s, .slice A l.length c] 25)).alloc (.cells #[.int .i64 k', .int .i64 n', .string s', .slice A' l'.length c'] 25)) W' → Below w.heap.size w W' := fun W' hW => ((below_new w _).alloc (by simp) _).trans (hW.mono (by omega))
    have hc1 : ∀ W', Below (w.heap.size + 2) ((w.alloc (.cells #[.int .i64 k, .int .i64 n, .string s, .slice A l.length c] 25)).alloc (.cells #[.int .i64 k', .int .i64 n', .string s', .slice A' l'.length c'] 25)) W' → W'.cell? ⟨w.heap.size, 3, none⟩ = some (.slice A l.length c) := fun W' hW => by
      rw [cell_of_row W' w.heap.size 3 _ _ _ ((hW.block _ (by omega)).trans (heap_alloc2_old _ _ _))]; rfl
    have hc2 : ∀ W', Below (w.heap.size + 2) ((w.alloc (.cells #[.int .i64 k, .int .i64 n, .string s, .slice A l.length c] 25)).alloc (.cells #[.int .i64 k', .int .i64 n', .string s', .slice A' l'.length c'] 25)) W' → W'.cell? ⟨w.heap.size + 1, 3, none⟩ = some (.slice A' l'.length c') := fun W' hW => by
      rw [cell_of_row W' (w.heap.size + 1) 3 _ _ _ ((hW.block _ (by omega)).trans (heap_alloc2_new _ _ _))]; rfl
    have HX := Lib.hid hbx
    have H1 := Lib.hid hc1
    have H2 := Lib.hid hc2
    clear hbx hc1 hc2
    go_enter Tryz.func45, Tryz.ntmps45
    go_wp2
    go_loopw [37] (fun z wr => ∃ j : Nat, j ≤ l.length ∧ z = .int .i64 j ∧ sameL (l.take j) (l'.take j) = true ∧ Below (w.heap.size + 2) ((w.alloc (.cells #[.int .i64 k, .int .i64 n, .string s, .slice A l.length c] 25)).alloc (.cells #[.int .i64 k', .int .i64 n', .string s', .slice A' l'.length c'] 25)) wr) (fun z _ => l.length - (intOf z).toNat)
    case atStart => exact ⟨0, Nat.zero_le _, rfl, rfl, Below.refl _ _⟩
    case round =>
      obtain ⟨j, hj, rfl, hsm, hb⟩ := hrel
      have HSM := Lib.hid hsm
      have HB := Lib.hid hb
      have hz : w.heap.size + 2 ≤ wr.heap.size := by have := hb.size; simp at this; omega
      clear hsm hb
      have z1 := H1.out wr HB.out
      by_cases hlt : j < l.length
      · have hlt' : j < l'.length := by have := HL.out; omega
        obtain ⟨b, o, cs, rfl, hSb, hr, hd⟩ := HK.out j _ (List.getElem?_eq_getElem hlt)
        obtain ⟨b', o', cs', rfl, hSb', hr', hd'⟩ := HK'.out j _ (List.getElem?_eq_getElem hlt')
        have HT := Lib.hid (sameL_take hlt hlt' HSM.out)
        have HST := Lib.hid (fun h => sameL_stop (l := l) (m := l') (k := j + 1) h)
        generalize l[j] = x at *
        generalize l'[j] = x' at *
        obtain ⟨k2, n2, s2, l2⟩ := x
        obtain ⟨k3, n3, s3, l3⟩ := x'
        cases d with
        | zero => exact hd.elim
        | succ d =>
        have hd0 := hd
        obtain ⟨A2, c2, rfl, _⟩ := hd
        obtain ⟨A3, c3, hcs, _⟩ := (TyR.open_ hd')
        simp only [Tt.kind, Tt.num, Tt.name, Tt.args] at hcs
        subst hcs
        have hW : ∀ W', Below wr.heap.size wr W' → Below w.heap.size w W' := fun W' h => HX.out _ (HB.out.trans (h.mono hz))
        have HR : Hid (∀ W', Below wr.heap.size wr W' → W'.rangeAt b (o + j * 4) [.int .i64 k2, .int .i64 n2, .string s2, .slice A2 l2.length c2]) := Lib.hid fun W' h => range_same hr (Same.of_below (hW W' h) HS.out) hSb
        have HR' : Hid (∀ W', Below wr.heap.size wr W' → W'.rangeAt b' (o' + j * 4) [.int .i64 k3, .int .i64 n3, .string s3, .slice A3 l3.length c3]) := Lib.hid fun W' h => range_same hr' (Same.of_below (hW W' h) HS.out) hSb'
        have HC1 : Hid (∀ W', Below wr.heap.size wr W' → W'.cell? ⟨w.heap.size, 3, none⟩ = some (.slice (some ⟨b, o, none⟩) l.length c)) := Lib.hid fun W' h => H1.out _ (HB.out.trans (h.mono hz))
        have HC2 : Hid (∀ W', Below wr.heap.size wr W' → W'.cell? ⟨w.heap.size + 1, 3, none⟩ = some (.slice (some ⟨b', o', none⟩) l'.length c')) := Lib.hid fun W' h => H2.out _ (HB.out.trans (h.mono hz))
        have HD : Hid (∀ W', Below wr.heap.size wr W' → Calls Tryz.prog 45 #[.agg #[.int .i64 k2, .int .i64 n2, .string s2, .slice A2 l2.length c2], .agg #[.int .i64 k3, .int .i64 n3, .string s3, .slice A3 l3.length c3]] W' fun e w' => e = .returned (.bool (sameT (.mk k2 n2 s2 l2) (.mk k3 n3 s3 l3))) ∧ Below W'.heap.size W' w') := Lib.hid fun W' h => by
          have h1 := hW W' h
          have h2 := h1.size
          exact HIH.out k2 n2 s2 l2 A2 c2 k3 n3 s3 l3 A3 c3 W' S (fun b hb => by have := HS.out b hb; omega) (hd0.keep (Same.of_below h1 HS.out)) (TyR.keep (Same.of_below h1 HS.out) hd')
        clear hr hr' hd0 hd' hW
        rw [← HT.out] at HD
        have HLL := Lib.hid HL.out
        go_wp2
        refine wp_region_K (fun w' => Below wr.heap.size wr w') (fun j => true) (by kernel_rfl) ?_
        refine wpK_take0 (v := ?_) (a' := ?_) 0 rfl (by kernel_rfl) (by kernel_rfl) (by kernel_rfl) (by kernel_rfl) (fun _ _ _ h => h) ?_ ?_ ?_
        rotate_left 2
        · refine .inl ⟨by kernel_rfl, ?_⟩; intro wS hS; clear hS; go_simp; with_reducible rfl
        · go_simp; with_reducible rfl
        refine wpK_take (v := ?_) (a' := ?_) 1 rfl (by kernel_rfl) (by kernel_rfl) (by kernel_rfl) (by kernel_rfl) (by kernel_rfl) (fun _ _ _ h => h) (below_drew1 (Below.refl _ _)) ?_ ?_ ?_
        rotate_left 2
        · refine .inl ⟨by kernel_rfl, ?_⟩; intro wS hS; have q5 := HC1.out _ hS; have q6 := HC2.out _ hS; go_simp; with_reducible rfl
        · go_simp; with_reducible rfl
        refine wpK_take0 (v := ?_) (a' := ?_) 2 rfl (by kernel_rfl) (by kernel_rfl) (by kernel_rfl) (by kernel_rfl) (fun _ _ _ h => h) ?_ ?_ ?_
        rotate_left 2
        · refine .inl ⟨by kernel_rfl, ?_⟩; intro wS hS; clear hS; go_simp; with_reducible rfl
        · go_simp; with_reducible rfl
        refine wpK_take0 (v := ?_) (a' := ?_) 3 rfl (by kernel_rfl) (by kernel_rfl) (by kernel_rfl) (by kernel_rfl) (fun _ _ _ h => h) ?_ ?_ ?_
        rotate_left 2
        · refine .inl ⟨by kernel_rfl, ?_⟩; intro wS hS; clear hS; go_simp; with_reducible rfl
        · go_simp; with_reducible rfl
        refine wpK_take (v := (.agg #[.int .i64 k2, .int .i64 n2, .string s2, .slice A2 l2.length c2])) (a' := ?_) 4 rfl (by kernel_rfl) (by kernel_rfl) (by kernel_rfl) (by kernel_rfl) (by kernel_rfl) (fun _ _ _ h => h) (below_drew1 (Below.refl _ _)) ?_ ?_ ?_
        rotate_left 1
        · exact yieldsIf_load_mid (by kernel_rfl) 25 (.tmp 43) rfl b (o + j * 4) (by go_simp) _ _ (fun wS hS => HR.out _ hS) Tryz.underlying25 rfl (tySize _ _ _ _)
        · go_simp; with_reducible rfl
        refine wpK_take0 (v := ?_) (a' := ?_) 5 rfl (by kernel_rfl) (by kernel_rfl) (by kernel_rfl) (by kernel_rfl) (fun _ _ _ h => h) ?_ ?_ ?_
        rotate_left 2
        · refine .inl ⟨by kernel_rfl, ?_⟩; intro wS hS; clear hS; go_simp; with_reducible rfl
        · go_simp; with_reducible rfl
        refine wpK_take (v := ?_) (a' := ?_) 6 rfl (by kernel_rfl) (by kernel_rfl) (by kernel_rfl) (by kernel_rfl) (by kernel_rfl) (fun _ _ _ h => h) (below_drew1 (Below.refl _ _)) ?_ ?_ ?_
        rotate_left 2
        · refine .inl ⟨by kernel_rfl, ?_⟩; intro wS hS; have q5 := HC1.out _ hS; have q6 := HC2.out _ hS; go_simp; with_reducible rfl
        · go_simp; with_reducible rfl
        refine wpK_take0 (v := ?_) (a' := ?_) 7 rfl (by kernel_rfl) (by kernel_rfl) (by kernel_rfl) (by kernel_rfl) (fun _ _ _ h => h) ?_ ?_ ?_
        rotate_left 2
        · refine .inl ⟨by kernel_rfl, ?_⟩; intro wS hS; clear hS; go_simp; with_reducible rfl
        · go_simp; with_reducible rfl
        refine wpK_take0 (v := ?_) (a' := ?_) 8 rfl (by kernel_rfl) (by kernel_rfl) (by kernel_rfl) (by kernel_rfl) (fun _ _ _ h => h) ?_ ?_ ?_
        rotate_left 2
        · refine .inl ⟨by kernel_rfl, ?_⟩; intro wS hS; clear hS; go_simp; with_reducible rfl
        · go_simp; with_reducible rfl
        refine wpK_take (v := (.agg #[.int .i64 k3, .int .i64 n3, .string s3, .slice A3 l3.length c3])) (a' := ?_) 9 rfl (by kernel_rfl) (by kernel_rfl) (by kernel_rfl) (by kernel_rfl) (by kernel_rfl) (fun _ _ _ h => h) (below_drew1 (Below.refl _ _)) ?_ ?_ ?_
        rotate_left 1
        · exact yieldsIf_load_mid (by kernel_rfl) 25 (.tmp 48) rfl b' (o' + j * 4) (by go_simp) _ _ (fun wS hS => HR'.out _ hS) Tryz.underlying25 rfl (tySize _ _ _ _)
        · go_simp; with_reducible rfl
        refine wpK_one 10 rfl (by kernel_rfl) (fun K hK => ?_)
        have HKK := Lib.hid hK
        clear hK
        cases hsj : sameL (l.take (j + 1)) (l'.take (j + 1))
        · have HSJ := Lib.hid hsj
          clear hsj
          go_wp2_with fail
          refine (HD.out _ (below_drew1 (Below.refl _ _))).mono ?_
          rw [HSJ.out]
          rintro e w1 ⟨rfl, hb1⟩
          have HM := Lib.hid hb1
          clear hb1
          go_wp2
          refine HKK.out _ _ (fun _ hS => hS.trans (HM.out.mono (by simp))) ?_
          refine wpK_one 11 rfl (by kernel_rfl) (fun K hK => ?_)
          have HKK := Lib.hid hK
          clear hK
          go_wp2
          refine HKK.out _ _ (fun _ hS => hS) ?_
          refine wpK_end (by kernel_rfl) ?_ _
          go_wp2
          go_ret
          exact ⟨ret_bool (by rw [HE.out, HST.out HSJ.out]; rfl), HX.out _ (HB.out.trans ((below_drew1 (Below.refl _ _)).trans (HM.out.mono hz)))⟩
        · have HSJ := Lib.hid hsj
          clear hsj
          go_wp2_with fail
          refine (HD.out _ (below_drew1 (Below.refl _ _))).mono ?_
          rw [HSJ.out]
          rintro e w1 ⟨rfl, hb1⟩
          have HM := Lib.hid hb1
          clear hb1
          go_wp2
          refine HKK.out _ _ (fun _ hS => hS.trans (HM.out.mono (by simp))) ?_
          refine wpK_one 11 rfl (by kernel_rfl) (fun K hK => ?_)
          have HKK := Lib.hid hK
          clear hK
          go_wp2
          refine HKK.out _ _ (fun _ hS => hS) ?_
          refine wpK_end (by kernel_rfl) ?_ _
          go_wp2
          go_roundw
          case rel => exact ⟨j + 1, by omega, by go_num, HSJ.out, HB.out.trans ((below_drew1 (Below.refl _ _)).trans (HM.out.mono hz))⟩
          case measure => simp [intOf]; omega
      · obtain rfl : j = l.length := by omega
        go_wp2
        go_ret
        have hfin : sameL l l' = true := by
          have := HSM.out
          rw [List.take_length, HL.out, List.take_length] at this; exact this
        exact ⟨ret_bool (by rw [HE.out, hfin]; rfl), HX.out _ HB.out⟩
set_option maxHeartbeats 1000000 in
theorem rsame_any : ∀ (d : Nat) (k n : Int) (s : ByteArray) (l : List Tt) (A : Option Addr) (c : Nat) (k' n' : Int) (s' : ByteArray) (l' : List Tt) (A' : Option Addr) (c' : Nat) (w : World) (S : Nat → Prop), (∀ b, S b → b < w.heap.size) →
    TyRd w S d (.mk k n s l) [.int .i64 k, .int .i64 n, .string s, .slice A l.length c] → TyR.rd w S (.mk k' n' s' l') [.int .i64 k', .int .i64 n', .string s', .slice A' l'.length c'] →
    Calls Tryz.prog 44 #[.agg #[.int .i64 k, .int .i64 n, .string s, .slice A l.length c], .agg #[.int .i64 k', .int .i64 n', .string s', .slice A' l'.length c']] w fun e w' => e = .returned (.bool (sameT (.mk k n s l) (.mk k' n' s' l'))) ∧ Below w.heap.size w w' := by
  intro d
  induction d with
  | zero => intro k n s l A c k' n' s' l' A' c' w S _ h; exact h.elim
  | succ d ih =>
    intro k n s l A c k' n' s' l' A' c' w S hS h h'
    obtain ⟨A1, c1, hcs, hn, hl, hs, hk⟩ := h
    simp only [List.cons.injEq, Value.slice.injEq, and_true, true_and] at hcs
    obtain ⟨rfl, rfl⟩ := hcs
    obtain ⟨A1, c1, hcs, hn', hl', hs', hk'⟩ := (TyR.open_ h')
    simp only [Tt.kind, Tt.num, Tt.name, Tt.args, List.cons.injEq, Value.slice.injEq, and_true, true_and] at hcs hn' hl' hs' hk'
    obtain ⟨rfl, rfl⟩ := hcs
    have HK := Lib.hid hk
    have HK' := Lib.hid hk'
    have HS := Lib.hid hS
    have HIH := Lib.hid ih
    have HE : Hid (sameT (.mk k n s l) (.mk k' n' s' l') = (decide (k = k') && decide (n = n') && decide (s = s') && decide (l.length = l'.length) && sameL l l')) := Lib.hid (by rw [sameT])
    clear hk hk' hS ih h' hn hn' hs hs'
    by_cases e1 : k = k'
    case neg =>
      have q1 : (k != k') = true := by simpa using e1
      have HN := Lib.hid e1
      clear e1
      go_enter Tryz.func44, Tryz.ntmps44
      go_wp2
      go_ret
      exact ⟨ret_bool (by rw [HE.out]; simp [HN.out]), ((below_new _ _).alloc (by simp) _)⟩
    have q1 : (k != k') = false := by simpa using e1
    by_cases e2 : n = n'
    case neg =>
      have q2 : (n != n') = true := by simpa using e2
      have HN := Lib.hid e2
      clear e1 e2
      go_enter Tryz.func44, Tryz.ntmps44
      go_wp2
      go_ret
      exact ⟨ret_bool (by rw [HE.out]; simp [HN.out]), ((below_new _ _).alloc (by simp) _)⟩
    have q2 : (n != n') = false := by simpa using e2
    by_cases e3 : s = s'
    case neg =>
      have q3 : (s.toList == s'.toList) = false := by simpa [bytes_eq] using e3
      have HN := Lib.hid e3
      clear e1 e2 e3
      go_enter Tryz.func44, Tryz.ntmps44
      go_wp2
      go_ret
      exact ⟨ret_bool (by rw [HE.out]; simp [HN.out]), ((below_new _ _).alloc (by simp) _)⟩
    have q3 : (s.toList == s'.toList) = true := by rw [e3]; simp
    by_cases e4 : l.length = l'.length
    case neg =>
      have q4 : ((l.length : Int) != l'.length) = true := by simpa using (by omega : (l.length : Int) ≠ l'.length)
      have HN := Lib.hid e4
      clear e1 e2 e3 e4
      go_enter Tryz.func44, Tryz.ntmps44
      go_wp2
      go_ret
      exact ⟨ret_bool (by rw [HE.out]; simp [HN.out]), ((below_new _ _).alloc (by simp) _)⟩
    have q4 : ((l.length : Int) != l'.length) = false := by rw [e4]; simp
    rw [decide_eq_true e1, decide_eq_true e2, decide_eq_true e3, decide_eq_true e4] at HE
    have HL := Lib.hid e4
    clear e1 e2 e3 e4
    have hbx : ∀ W', Below (w.heap.size + 2) ((w.alloc (.cells #[.int .i64 k, .int .i64 n, .string s, .slice A l.length c] 25)).alloc (.cells #[.int .i64 k', .int .i64 n', .string s', .slice A' l'.length c'] 25)) W' → Below w.heap.size w W' := fun W' hW => ((below_new w _).alloc (by simp) _).trans (hW.mono (by omega))
    have hc1 : ∀ W', Below (w.heap.size + 2) ((w.alloc (.cells #[.int .i64 k, .int .i64 n, .string s, .slice A l.length c] 25)).alloc (.cells #[.int .i64 k', .int .i64 n', .string s', .slice A' l'.length c'] 25)) W' → W'.cell? ⟨w.heap.size, 3, none⟩ = some (.slice A l.length c) := fun W' hW => by
      rw [cell_of_row W' w.heap.size 3 _ _ _ ((hW.block _ (by omega)).trans (heap_alloc2_old _ _ _))]; rfl
    have hc2 : ∀ W', Below (w.heap.size + 2) ((w.alloc (.cells #[.int .i64 k, .int .i64 n, .string s, .slice A l.length c] 25)).alloc (.cells #[.int .i64 k', .int .i64 n', .string s', .slice A' l'.length c'] 25)) W' → W'.cell? ⟨w.heap.size + 1, 3, none⟩ = some (.slice A' l'.length c') := fun W' hW => by
      rw [cell_of_row W' (w.heap.size + 1) 3 _ _ _ ((hW.block _ (by omega)).trans (heap_alloc2_new _ _ _))]; rfl
    have HX := Lib.hid hbx
    have H1 := Lib.hid hc1
    have H2 := Lib.hid hc2
    clear hbx hc1 hc2
    go_enter Tryz.func44, Tryz.ntmps44
    go_wp2
    go_loopw [5] (fun z wr => ∃ j : Nat, j ≤ l.length ∧ z = .int .i64 j ∧ sameL (l.take j) (l'.take j) = true ∧ Below (w.heap.size + 2) ((w.alloc (.cells #[.int .i64 k, .int .i64 n, .string s, .slice A l.length c] 25)).alloc (.cells #[.int .i64 k', .int .i64 n', .string s', .slice A' l'.length c'] 25)) wr) (fun z _ => l.length - (intOf z).toNat)
    case atStart => exact ⟨0, Nat.zero_le _, rfl, rfl, Below.refl _ _⟩
    case round =>
      obtain ⟨j, hj, rfl, hsm, hb⟩ := hrel
      have HSM := Lib.hid hsm
      have HB := Lib.hid hb
      have hz : w.heap.size + 2 ≤ wr.heap.size := by have := hb.size; simp at this; omega
      clear hsm hb
      have z1 := H1.out wr HB.out
      by_cases hlt : j < l.length
      · have hlt' : j < l'.length := by have := HL.out; omega
        obtain ⟨b, o, cs, rfl, hSb, hr, hd⟩ := HK.out j _ (List.getElem?_eq_getElem hlt)
        obtain ⟨b', o', cs', rfl, hSb', hr', hd'⟩ := HK'.out j _ (List.getElem?_eq_getElem hlt')
        have HT := Lib.hid (sameL_take hlt hlt' HSM.out)
        have HST := Lib.hid (fun h => sameL_stop (l := l) (m := l') (k := j + 1) h)
        generalize l[j] = x at *
        generalize l'[j] = x' at *
        obtain ⟨k2, n2, s2, l2⟩ := x
        obtain ⟨k3, n3, s3, l3⟩ := x'
        cases d with
        | zero => exact hd.elim
        | succ d =>
        have hd0 := hd
        obtain ⟨A2, c2, rfl, _⟩ := hd
        obtain ⟨A3, c3, hcs, _⟩ := (TyR.open_ hd')
        simp only [Tt.kind, Tt.num, Tt.name, Tt.args] at hcs
        subst hcs
        have hW : ∀ W', Below wr.heap.size wr W' → Below w.heap.size w W' := fun W' h => HX.out _ (HB.out.trans (h.mono hz))
        have HR : Hid (∀ W', Below wr.heap.size wr W' → W'.rangeAt b (o + j * 4) [.int .i64 k2, .int .i64 n2, .string s2, .slice A2 l2.length c2]) := Lib.hid fun W' h => range_same hr (Same.of_below (hW W' h) HS.out) hSb
        have HR' : Hid (∀ W', Below wr.heap.size wr W' → W'.rangeAt b' (o' + j * 4) [.int .i64 k3, .int .i64 n3, .string s3, .slice A3 l3.length c3]) := Lib.hid fun W' h => range_same hr' (Same.of_below (hW W' h) HS.out) hSb'
        have HC1 : Hid (∀ W', Below wr.heap.size wr W' → W'.cell? ⟨w.heap.size, 3, none⟩ = some (.slice (some ⟨b, o, none⟩) l.length c)) := Lib.hid fun W' h => H1.out _ (HB.out.trans (h.mono hz))
        have HC2 : Hid (∀ W', Below wr.heap.size wr W' → W'.cell? ⟨w.heap.size + 1, 3, none⟩ = some (.slice (some ⟨b', o', none⟩) l'.length c')) := Lib.hid fun W' h => H2.out _ (HB.out.trans (h.mono hz))
        have HD : Hid (∀ W', Below wr.heap.size wr W' → Calls Tryz.prog 44 #[.agg #[.int .i64 k2, .int .i64 n2, .string s2, .slice A2 l2.length c2], .agg #[.int .i64 k3, .int .i64 n3, .string s3, .slice A3 l3.length c3]] W' fun e w' => e = .returned (.bool (sameT (.mk k2 n2 s2 l2) (.mk k3 n3 s3 l3))) ∧ Below W'.heap.size W' w') := Lib.hid fun W' h => by
          have h1 := hW W' h
          have h2 := h1.size
          exact HIH.out k2 n2 s2 l2 A2 c2 k3 n3 s3 l3 A3 c3 W' S (fun b hb => by have := HS.out b hb; omega) (hd0.keep (Same.of_below h1 HS.out)) (TyR.keep (Same.of_below h1 HS.out) hd')
        clear hr hr' hd0 hd' hW
        rw [← HT.out] at HD
        have HLL := Lib.hid HL.out
        go_wp2
        refine wp_region_K (fun w' => Below wr.heap.size wr w') (fun j => true) (by kernel_rfl) ?_
        refine wpK_take0 (v := ?_) (a' := ?_) 0 rfl (by kernel_rfl) (by kernel_rfl) (by kernel_rfl) (by kernel_rfl) (fun _ _ _ h => h) ?_ ?_ ?_
        rotate_left 2
        · refine .inl ⟨by kernel_rfl, ?_⟩; intro wS hS; clear hS; go_simp; with_reducible rfl
        · go_simp; with_reducible rfl
        refine wpK_take (v := ?_) (a' := ?_) 1 rfl (by kernel_rfl) (by kernel_rfl) (by kernel_rfl) (by kernel_rfl) (by kernel_rfl) (fun _ _ _ h => h) (below_drew1 (Below.refl _ _)) ?_ ?_ ?_
        rotate_left 2
        · refine .inl ⟨by kernel_rfl, ?_⟩; intro wS hS; have q5 := HC1.out _ hS; have q6 := HC2.out _ hS; go_simp; with_reducible rfl
        · go_simp; with_reducible rfl
        refine wpK_take0 (v := ?_) (a' := ?_) 2 rfl (by kernel_rfl) (by kernel_rfl) (by kernel_rfl) (by kernel_rfl) (fun _ _ _ h => h) ?_ ?_ ?_
        rotate_left 2
        · refine .inl ⟨by kernel_rfl, ?_⟩; intro wS hS; clear hS; go_simp; with_reducible rfl
        · go_simp; with_reducible rfl
        refine wpK_take0 (v := ?_) (a' := ?_) 3 rfl (by kernel_rfl) (by kernel_rfl) (by kernel_rfl) (by kernel_rfl) (fun _ _ _ h => h) ?_ ?_ ?_
        rotate_left 2
        · refine .inl ⟨by kernel_rfl, ?_⟩; intro wS hS; clear hS; go_simp; with_reducible rfl
        · go_simp; with_reducible rfl
        refine wpK_take (v := (.agg #[.int .i64 k2, .int .i64 n2, .string s2, .slice A2 l2.length c2])) (a' := ?_) 4 rfl (by kernel_rfl) (by kernel_rfl) (by kernel_rfl) (by kernel_rfl) (by kernel_rfl) (fun _ _ _ h => h) (below_drew1 (Below.refl _ _)) ?_ ?_ ?_
        rotate_left 1
        · exact yieldsIf_load_mid (by kernel_rfl) 25 (.tmp 44) rfl b (o + j * 4) (by go_simp) _ _ (fun wS hS => HR.out _ hS) Tryz.underlying25 rfl (tySize _ _ _ _)
        · go_simp; with_reducible rfl
        refine wpK_take0 (v := ?_) (a' := ?_) 5 rfl (by kernel_rfl) (by kernel_rfl) (by kernel_rfl) (by kernel_rfl) (fun _ _ _ h => h) ?_ ?_ ?_
        rotate_left 2
        · refine .inl ⟨by kernel_rfl, ?_⟩; intro wS hS; clear hS; go_simp; with_reducible rfl
        · go_simp; with_reducible rfl
        refine wpK_take (v := ?_) (a' := ?_) 6 rfl (by kernel_rfl) (by kernel_rfl) (by kernel_rfl) (by kernel_rfl) (by kernel_rfl) (fun _ _ _ h => h) (below_drew1 (Below.refl _ _)) ?_ ?_ ?_
        rotate_left 2
        · refine .inl ⟨by kernel_rfl, ?_⟩; intro wS hS; have q5 := HC1.out _ hS; have q6 := HC2.out _ hS; go_simp; with_reducible rfl
        · go_simp; with_reducible rfl
        refine wpK_take0 (v := ?_) (a' := ?_) 7 rfl (by kernel_rfl) (by kernel_rfl) (by kernel_rfl) (by kernel_rfl) (fun _ _ _ h => h) ?_ ?_ ?_
        rotate_left 2
        · refine .inl ⟨by kernel_rfl, ?_⟩; intro wS hS; clear hS; go_simp; with_reducible rfl
        · go_simp; with_reducible rfl
        refine wpK_take0 (v := ?_) (a' := ?_) 8 rfl (by kernel_rfl) (by kernel_rfl) (by kernel_rfl) (by kernel_rfl) (fun _ _ _ h => h) ?_ ?_ ?_
        rotate_left 2
        · refine .inl ⟨by kernel_rfl, ?_⟩; intro wS hS; clear hS; go_simp; with_reducible rfl
        · go_simp; with_reducible rfl
        refine wpK_take (v := (.agg #[.int .i64 k3, .int .i64 n3, .string s3, .slice A3 l3.length c3])) (a' := ?_) 9 rfl (by kernel_rfl) (by kernel_rfl) (by kernel_rfl) (by kernel_rfl) (by kernel_rfl) (fun _ _ _ h => h) (below_drew1 (Below.refl _ _)) ?_ ?_ ?_
        rotate_left 1
        · exact yieldsIf_load_mid (by kernel_rfl) 25 (.tmp 49) rfl b' (o' + j * 4) (by go_simp) _ _ (fun wS hS => HR'.out _ hS) Tryz.underlying25 rfl (tySize _ _ _ _)
        · go_simp; with_reducible rfl
        refine wpK_one 10 rfl (by kernel_rfl) (fun K hK => ?_)
        have HKK := Lib.hid hK
        clear hK
        cases hsj : sameL (l.take (j + 1)) (l'.take (j + 1))
        · have HSJ := Lib.hid hsj
          clear hsj
          go_wp2_with fail
          refine (HD.out _ (below_drew1 (Below.refl _ _))).mono ?_
          rw [HSJ.out]
          rintro e w1 ⟨rfl, hb1⟩
          have HM := Lib.hid hb1
          clear hb1
          go_wp2
          refine HKK.out _ _ (fun _ hS => hS.trans (HM.out.mono (by simp))) ?_
          refine wpK_one 11 rfl (by kernel_rfl) (fun K hK => ?_)
          have HKK := Lib.hid hK
          clear hK
          go_wp2
          refine HKK.out _ _ (fun _ hS => hS) ?_
          refine wpK_end (by kernel_rfl) ?_ _
          go_wp2
          go_ret
          exact ⟨ret_bool (by rw [HE.out, HST.out HSJ.out]; rfl), HX.out _ (HB.out.trans ((below_drew1 (Below.refl _ _)).trans (HM.out.mono hz)))⟩
        · have HSJ := Lib.hid hsj
          clear hsj
          go_wp2_with fail
          refine (HD.out _ (below_drew1 (Below.refl _ _))).mono ?_
          rw [HSJ.out]
          rintro e w1 ⟨rfl, hb1⟩
          have HM := Lib.hid hb1
          clear hb1
          go_wp2
          refine HKK.out _ _ (fun _ hS => hS.trans (HM.out.mono (by simp))) ?_
          refine wpK_one 11 rfl (by kernel_rfl) (fun K hK => ?_)
          have HKK := Lib.hid hK
          clear hK
          go_wp2
          refine HKK.out _ _ (fun _ hS => hS) ?_
          refine wpK_end (by kernel_rfl) ?_ _
          go_wp2
          go_roundw
          case rel => exact ⟨j + 1, by omega, by go_num, HSJ.out, HB.out.trans ((below_drew1 (Below.refl _ _)).trans (HM.out.mono hz))⟩
          case measure => simp [intOf]; omega
      · obtain rfl : j = l.length := by omega
        go_wp2
        go_ret
        have hfin : sameL l l' = true := by
          have := HSM.out
          rw [List.take_length, HL.out, List.take_length] at this; exact this
        exact ⟨ret_bool (by rw [HE.out, hfin]; rfl), HX.out _ HB.out⟩
end Go.Proofs.YtoopopjcojphaaaGreatDoor
/-
  THE REFERENCE's CopyTy; rows that grow in a struct's field.
-/
namespace Go.Proofs.YtoopopjcojphaaaGreatDoor
open Go.ChangeShapes Go.WideShapes Go.ChangeAt Go.RowKit
set_option linter.unusedVariables false
/-- A struct in block bx whose slice grows; the blocks below base, but bx, are as in W1. -/
structure Grow (W1 : World) (base bx : Nat) (kk n : Int) (s : ByteArray) (us : List Tt) (sv : Value) (wr : World) : Prop where
  box : wr.heap[bx]? = some (.cells #[.int .i64 kk, .int .i64 n, .string s, sv] 25 (0, 0))
  own : Own TyR 4 wr base 25 sv us
  lt : bx < base
  size : base ≤ wr.heap.size
  wide : W1.heap.size ≤ wr.heap.size
  os : wr.os = W1.os
  tape : wr.tape = W1.tape
  output : wr.output = W1.output
  block : ∀ k, k < base → k ≠ bx → wr.heap[k]? = W1.heap[k]?
section
variable {W1 : World} {base bx : Nat} {kk n : Int} {s : ByteArray} {us : List Tt} {sv v' : Value} {wr w1 w2 : World} {rows : List (List Value)}
theorem Grow.cell {w' : World} (h : Grow W1 base bx kk n s us sv wr) (hb : Below wr.heap.size wr w') : w'.cell? ⟨bx, 3, none⟩ = some sv := by
  have h1 := h.size
  have h2 := h.lt
  rw [cell_of_row w' bx 3 _ _ _ ((hb.block _ (by omega)).trans h.box)]; rfl
theorem Grow.below {B : Nat} (h : Grow W1 base bx kk n s us sv wr) (hB : B ≤ bx) {w : World} (hw : Below B w W1) : Below B w wr :=
  ⟨h.os.trans hw.os, h.tape.trans hw.tape, h.output.trans hw.output, Nat.le_trans hw.size h.wide, fun k hk => (h.block k (by have := h.lt; omega) (by omega)).trans (hw.block k hk)⟩
theorem grow_cell (h : Grow W1 base bx kk n s us sv wr) (hb : Below wr.heap.size wr w1) (ho : OwnRows TyR 4 w1 base 25 sv us rows) (hg : w1.grownBy w2 sv.ownBlock) :
    w2.cell? ⟨bx, 3, none⟩ = some sv ∧ w2.frozen? ⟨bx, 3, none⟩ = false := by
  have hz := h.size
  have hl := h.lt
  have hb1 : w2.heap[bx]? = some (.cells #[.int .i64 kk, .int .i64 n, .string s, sv] 25 (0, 0)) := by
    rw [hg.block _ (by have := hb.size; omega) (fun e => by have := (ho.2.2.1.lt _ e.symm).1; omega), hb.block _ (by omega)]; exact h.box
  exact ⟨by rw [cell_of_row w2 _ 3 _ _ _ hb1]; rfl, frozen_of_row w2 _ 3 _ _ hb1⟩
theorem grow_next {u : Tt} {A : Option Addr} {c : Nat} (h : Grow W1 base bx kk n s us sv wr)
    (hb : Below wr.heap.size wr (w1.alloc (.cells #[.int .i64 u.kind, .int .i64 u.num, .string u.name, .slice A u.args.length c] 25))) (ho : OwnRows TyR 4 (w1.alloc (.cells #[.int .i64 u.kind, .int .i64 u.num, .string u.name, .slice A u.args.length c] 25)) base 25 sv us rows)
    (hown : w2.ownsRow base 25 4 v' (us.length + 1) (rows.flatten ++ [.int .i64 u.kind, .int .i64 u.num, .string u.name, .slice A u.args.length c])) (hg : (w1.alloc (.cells #[.int .i64 u.kind, .int .i64 u.num, .string u.name, .slice A u.args.length c] 25)).grownBy w2 sv.ownBlock)
    (hv : v'.ownBlock = sv.ownBlock ∨ v'.ownBlock = some (w1.alloc (.cells #[.int .i64 u.kind, .int .i64 u.num, .string u.name, .slice A u.args.length c] 25)).heap.size)
    (hd : TyR.rd w1 (New wr.drew.heap.size w1) u [.int .i64 u.kind, .int .i64 u.num, .string u.name, .slice A u.args.length c]) (hb1 : Below wr.drew.heap.size wr.drew w1) :
    Grow W1 base bx kk n s (us ++ [u]) v' (w2.setCell ⟨bx, 3, none⟩ v') := by
  have hz := h.size
  have hl := h.lt
  have hz1 : wr.heap.size ≤ w1.heap.size := hb1.size
  have hne : ∀ k, k < base → sv.ownBlock ≠ some k := fun k hk e => by have := (ho.2.2.1.lt _ e).1; omega
  have hlt : ∀ k, sv.ownBlock = some k → k < wr.heap.size := fun k e => by
    obtain ⟨r, hr⟩ := h.own
    exact (hr.2.2.1.lt _ e).2
  generalize hw : w1.alloc (.cells #[.int .i64 u.kind, .int .i64 u.num, .string u.name, .slice A u.args.length c] 25) = wa at *
  have hwz : wa.heap.size = w1.heap.size + 1 := by rw [← hw]; simp
  have hown2 : Own TyR 4 w2 base 25 v' (us ++ [u]) := by
    refine ho.snoc rfl ?_ hown hg hv
    have hk : Same (New wr.drew.heap.size w1) w1 wa := by rw [← hw]; exact Same.of_below (below_new _ _) fun b hb => hb.2
    refine TyR.more (fun b hb => ⟨?_, ?_, fun e => ?_⟩) (TyR.keep hk hd)
    · have : wr.heap.size ≤ b := hb.1; omega
    · have := hb.2; omega
    · have h1 : wr.heap.size ≤ b := hb.1
      have := hlt _ e; omega
  have hb2 : ∀ k, k < base → w2.heap[k]? = wr.heap[k]? := fun k hk => by rw [hg.block _ (by omega) (fun e => hne k hk e.symm), hb.block _ (by omega)]
  have hbx := (hb2 bx hl).trans h.box
  have hsz : (w2.setCell ⟨bx, 3, none⟩ v').heap.size = w2.heap.size := by simp
  have hgz := hg.size
  refine ⟨?_, hown2.keep (fun k hk _ => heap_setCell_other w2 _ _ _ (by simp; omega)) (by omega), hl, by omega, by have := h.wide; omega, hg.os.trans (hb.os.trans h.os), hg.tape.trans (hb.tape.trans h.tape), hg.output.trans (hb.output.trans h.output), fun k hk hne => ?_⟩
  · rw [heap_setCell_same w2 _ 3 _ _ _ hbx]; rfl
  · rw [heap_setCell_other w2 _ _ _ (by simp; omega), hb2 k hk, h.block k hk hne]
end
theorem heap_alloc3_new (w : World) (A B C : Obj) : (((w.alloc A).alloc B).alloc C).heap[w.heap.size + 2]? = some C := by
  have := heap_alloc_new ((w.alloc A).alloc B) C
  simpa using this
theorem heap_alloc3_mid (w : World) (A B C : Obj) : (((w.alloc A).alloc B).alloc C).heap[w.heap.size + 1]? = some B := by
  rw [heap_alloc_old _ _ (by simp), heap_alloc2_new]
theorem heap_alloc3_old (w : World) (A B C : Obj) : (((w.alloc A).alloc B).alloc C).heap[w.heap.size]? = some A := by
  rw [heap_alloc_old _ _ (by simp; omega), heap_alloc2_old]
/-- The world in which a copy of a struct begins to grow. -/
def W3 (w : World) (k n : Int) (s : ByteArray) (A : Option Addr) (m c : Nat) (k' n' : Int) (s' : ByteArray) : World :=
  ((w.alloc (.cells #[.int .i64 k, .int .i64 n, .string s, .slice A m c] 25)).alloc (.cells #[.int .i64 0, .int .i64 0, .string ⟨#[]⟩, .slice none 0 0] 25)).alloc (.cells #[.int .i64 k', .int .i64 n', .string s', .slice none 0 0] 25)
theorem W3.below (w : World) (k n : Int) (s : ByteArray) (A : Option Addr) (m c : Nat) (k' n' : Int) (s' : ByteArray) : Below w.heap.size w (W3 w k n s A m c k' n' s') := ((below_new w _).alloc (by simp) _).alloc (by simp; omega) _
theorem W3.start (w : World) (k n : Int) (s : ByteArray) (A : Option Addr) (m c : Nat) (k' n' : Int) (s' : ByteArray) : Grow (W3 w k n s A m c k' n' s') (w.heap.size + 3) (w.heap.size + 2) k' n' s' [] (.slice none 0 0) (W3 w k n s A m c k' n' s') :=
  ⟨heap_alloc3_new _ _ _ _, Own.nil _ _ _ _ _, by omega, by unfold W3; simp, Nat.le_refl _, rfl, rfl, rfl, fun _ _ _ => rfl⟩
section
variable {w wr : World} {k n k' n' : Int} {s s' : ByteArray} {A A' : Option Addr} {m c c' : Nat} {us : List Tt} {sv : Value}
theorem W3.old (h : Grow (W3 w k n s A m c k' n' s') (w.heap.size + 3) (w.heap.size + 2) k' n' s' us sv wr) : wr.heap[w.heap.size]? = some (.cells #[.int .i64 k, .int .i64 n, .string s, .slice A m c] 25 (0, 0)) :=
  (h.block _ (by omega) (by omega)).trans (heap_alloc3_old _ _ _ _)
theorem W3.res (h : Grow (W3 w k n s A m c k' n' s') (w.heap.size + 3) (w.heap.size + 2) k' n' s' us sv wr) : wr.heap[w.heap.size + 1]? = some (.cells #[.int .i64 0, .int .i64 0, .string ⟨#[]⟩, .slice none 0 0] 25 (0, 0)) :=
  (h.block _ (by omega) (by omega)).trans (heap_alloc3_mid _ _ _ _)
theorem W3.arg (h : Grow (W3 w k n s A m c k' n' s') (w.heap.size + 3) (w.heap.size + 2) k' n' s' us sv wr) {w' : World} (hb : Below wr.heap.size wr w') : w'.cell? ⟨w.heap.size, 3, none⟩ = some (.slice A m c) := by
  have hz := h.size
  rw [cell_of_row w' w.heap.size 3 _ _ _ ((hb.block _ (by omega)).trans (W3.old h))]; rfl
theorem W3.made (h : Grow (W3 w k n s A m c k' n' s') (w.heap.size + 3) (w.heap.size + 2) k' n' s' us (.slice A' us.length c') wr) (hn : -9223372036854775808 ≤ n' ∧ n' ≤ 9223372036854775807) (hl : us.length ≤ 1048576) (hs : s'.size ≤ 1048576) (r : Array Value) :
    TyR.rd (wr.setRow (w.heap.size + 1) r) (New w.heap.size (wr.setRow (w.heap.size + 1) r)) (.mk k' n' s' us) [.int .i64 k', .int .i64 n', .string s', .slice A' us.length c'] ∧ Below w.heap.size w (wr.setRow (w.heap.size + 1) r) :=
  ⟨copy_end (TyR.more (S := New (w.heap.size + 3) wr) (fun b hb => ⟨by have := hb.1; omega, hb.2⟩) (TyR.mk hn hl hs h.own.rows)), copy_below (h.below (by omega) (W3.below _ _ _ _ _ _ _ _ _ _)) (Below.refl _ _)⟩
end
end Go.Proofs.YtoopopjcojphaaaGreatDoor
