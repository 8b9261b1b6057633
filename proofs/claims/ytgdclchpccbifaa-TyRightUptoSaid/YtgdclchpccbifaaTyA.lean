/-
  READINGS OF TYPES, AND ty.all.
-/
import Derived.Test.YtgdclchpccbifaaTree
import Derived.Test.YtgdclchpccbifaaChain
import Derived.Test.YtgdclchpccbifaaTyM
import Derived.Test.YtgdclchpccbifaaChecked
import Derived.Calls
import Derived.LoopTactic
import Derived.WalkKit
import Derived.WalkSpells
import Derived.Outline
import Derived.Deep.MidRow
namespace Go.Proofs.Ytgdclchpccbifaa
open Go.ChangeShapes Go.WideShapes Go.ChangeAt Go.RowKit
set_option linter.unusedVariables false
/-- The cells cs read as the type t, to a depth, through the blocks of S. -/
def TyRd (w : World) (S : Nat → Prop) : Nat → Tt → List Value → Prop
  | 0, _, _ => False
  | d + 1, .mk k n s l, cs => ∃ A c, cs = [.int .i64 k, .int .i64 n, .string s, .slice A l.length c] ∧ (-9223372036854775808 ≤ n ∧ n ≤ 9223372036854775807) ∧ l.length ≤ 1048576 ∧ s.size ≤ 1048576 ∧
      ∀ (i : Nat) (t : Tt), l[i]? = some t → ∃ b o cs', A = some ⟨b, o, none⟩ ∧ S b ∧ w.rangeAt b (o + i * 4) cs' ∧ TyRd w S d t cs'
theorem TyRd.keep {w w' : World} {S : Nat → Prop} (hs : Same S w w') : ∀ (d : Nat) (t : Tt) (cs : List Value), TyRd w S d t cs → TyRd w' S d t cs
  | 0, _, _, h => h
  | d + 1, .mk k n s l, cs, h => by
    obtain ⟨A, c, h1, h2, h4, h5, h3⟩ := h
    refine ⟨A, c, h1, h2, h4, h5, fun i t ht => ?_⟩
    obtain ⟨b, o, cs', e, hB, hr, hd⟩ := h3 i t ht
    exact ⟨b, o, cs', e, hB, range_same hr hs hB, TyRd.keep hs d t cs' hd⟩
theorem TyRd.more {w : World} {S S' : Nat → Prop} (hS : ∀ b, S b → S' b) : ∀ (d : Nat) (t : Tt) (cs : List Value), TyRd w S d t cs → TyRd w S' d t cs
  | 0, _, _, h => h
  | d + 1, .mk k n s l, cs, h => by
    obtain ⟨A, c, h1, h2, h4, h5, h3⟩ := h
    refine ⟨A, c, h1, h2, h4, h5, fun i t ht => ?_⟩
    obtain ⟨b, o, cs', e, hb, hr, hd⟩ := h3 i t ht
    exact ⟨b, o, cs', e, hS b hb, hr, TyRd.more hS d t cs' hd⟩
theorem TyRd.deeper {w : World} {S : Nat → Prop} : ∀ (d d' : Nat) (t : Tt) (cs : List Value), d ≤ d' → TyRd w S d t cs → TyRd w S d' t cs
  | 0, _, _, _, _, h => h.elim
  | d + 1, 0, _, _, hd, _ => absurd hd (by omega)
  | d + 1, d' + 1, .mk k n s l, cs, hd, h => by
    obtain ⟨A, c, h1, h2, h4, h5, h3⟩ := h
    refine ⟨A, c, h1, h2, h4, h5, fun i t ht => ?_⟩
    obtain ⟨b, o, cs', e, hb, hr, hd'⟩ := h3 i t ht
    exact ⟨b, o, cs', e, hb, hr, TyRd.deeper d d' t cs' (by omega) hd'⟩
/-- THE READING OF TYPES. -/
def TyR : Reading Tt where
  rd w S t cs := ∃ d, TyRd w S d t cs
  keep h := fun ⟨d, hd⟩ => ⟨d, TyRd.keep h d _ _ hd⟩
  more h := fun ⟨d, hd⟩ => ⟨d, TyRd.more h d _ _ hd⟩
theorem TyRd.rows {w : World} {S : Nat → Prop} {d : Nat} {k n : Int} {s : ByteArray} {l : List Tt} {cs : List Value} (h : TyRd w S (d + 1) (.mk k n s l) cs) :
    ∃ A c, cs = [.int .i64 k, .int .i64 n, .string s, .slice A l.length c] ∧ (-9223372036854775808 ≤ n ∧ n ≤ 9223372036854775807) ∧ l.length ≤ 1048576 ∧ s.size ≤ 1048576 ∧ Rows TyR 4 w S A l := by
  obtain ⟨A, c, h1, h2, h3, h4, h5⟩ := h
  exact ⟨A, c, h1, h2, h3, h4, fun i t ht => by obtain ⟨b, o, cs', e, hb, hr, hd⟩ := h5 i t ht; exact ⟨b, o, cs', e, hb, hr, d, hd⟩⟩
theorem deep_of {w : World} {S : Nat → Prop} {A : Option Addr} : ∀ {l : List Tt}, Rows TyR 4 w S A l → ∃ d, ∀ (i : Nat) (t : Tt), l[i]? = some t → ∃ b o cs', A = some ⟨b, o, none⟩ ∧ S b ∧ w.rangeAt b (o + i * 4) cs' ∧ TyRd w S d t cs' := by
  intro l h
  have key : ∀ n, ∃ d, ∀ (i : Nat) (t : Tt), i < n → l[i]? = some t → ∃ b o cs', A = some ⟨b, o, none⟩ ∧ S b ∧ w.rangeAt b (o + i * 4) cs' ∧ TyRd w S d t cs' := by
    intro n
    induction n with
    | zero => exact ⟨0, fun i t hi => by omega⟩
    | succ n ih =>
      obtain ⟨d, hd⟩ := ih
      cases hn : l[n]? with
      | none =>
        refine ⟨d, fun i t hi ht => ?_⟩
        by_cases h0 : i = n
        · subst h0; rw [hn] at ht; cases ht
        · exact hd i t (by omega) ht
      | some u =>
        obtain ⟨b, o, cs, e, hS, hr, d', hd'⟩ := h n u hn
        refine ⟨d + d', fun i t hi ht => ?_⟩
        by_cases h0 : i = n
        · subst h0
          rw [hn] at ht; cases ht
          exact ⟨b, o, cs, e, hS, hr, hd'.deeper _ _ _ _ (by omega)⟩
        · obtain ⟨b, o, cs, e, hS, hr, hq⟩ := hd i t (by omega) ht
          exact ⟨b, o, cs, e, hS, hr, hq.deeper _ _ _ _ (by omega)⟩
  obtain ⟨d, hd⟩ := key l.length
  exact ⟨d, fun i t ht => hd i t (List.getElem?_eq_some_iff.1 ht).1 ht⟩
theorem TyR.mk {w : World} {S : Nat → Prop} {k n : Int} {s : ByteArray} {l : List Tt} {A : Option Addr} {c : Nat} (h2 : -9223372036854775808 ≤ n ∧ n ≤ 9223372036854775807) (h3 : l.length ≤ 1048576) (h4 : s.size ≤ 1048576) (h : Rows TyR 4 w S A l) :
    TyR.rd w S (.mk k n s l) [.int .i64 k, .int .i64 n, .string s, .slice A l.length c] := by
  obtain ⟨d, hd⟩ := deep_of h
  exact ⟨d + 1, A, c, rfl, h2, h3, h4, hd⟩
theorem TyR.open_ {w : World} {S : Nat → Prop} {t : Tt} {cs : List Value} (h : TyR.rd w S t cs) :
    ∃ A c, cs = [.int .i64 t.kind, .int .i64 t.num, .string t.name, .slice A t.args.length c] ∧ (-9223372036854775808 ≤ t.num ∧ t.num ≤ 9223372036854775807) ∧ t.args.length ≤ 1048576 ∧ t.name.size ≤ 1048576 ∧ Rows TyR 4 w S A t.args := by
  obtain ⟨d, h⟩ := h
  cases d with
  | zero => exact h.elim
  | succ d => cases t; exact h.rows
/-- At ⟨b, o⟩ lies the type t. -/
def TyP (w : World) (S : Nat → Prop) (d : Nat) (t : Tt) (b o : Nat) : Prop := S b ∧ ∃ cs, w.rangeAt b o cs ∧ TyRd w S d t cs
theorem TyP.keep {w w' : World} {S : Nat → Prop} {d b o : Nat} {t : Tt} (h : TyP w S d t b o) (hs : Same S w w') : TyP w' S d t b o := by
  obtain ⟨h1, cs, h2, h3⟩ := h
  exact ⟨h1, cs, range_same h2 hs h1, h3.keep hs⟩
/-- The cells of a node. -/
def Node (w : World) (b o : Nat) (t : Tt) (A : Option Addr) (c : Nat) : Prop :=
  w.cell? ⟨b, o, none⟩ = some (.int .i64 t.kind) ∧ w.cell? ⟨b, o + 1, none⟩ = some (.int .i64 t.num) ∧ w.cell? ⟨b, o + 2, none⟩ = some (.string t.name) ∧ w.cell? ⟨b, o + 3, none⟩ = some (.slice A t.args.length c)
theorem Node.keep {w w' : World} {S : Nat → Prop} {b o c : Nat} {t : Tt} {A : Option Addr} (h : Node w b o t A c) (hs : Same S w w') (hb : S b) : Node w' b o t A c :=
  ⟨(hs _ _ hb).trans h.1, (hs _ _ hb).trans h.2.1, (hs _ _ hb).trans h.2.2.1, (hs _ _ hb).trans h.2.2.2⟩
theorem TyP.node {w : World} {S : Nat → Prop} {d b o : Nat} {t : Tt} (h : TyP w S d t b o) : ∃ A c d', d = d' + 1 ∧ Node w b o t A c ∧ (-9223372036854775808 ≤ t.num ∧ t.num ≤ 9223372036854775807) ∧ t.args.length ≤ 1048576 ∧ t.name.size ≤ 1048576 ∧ S b ∧
    ∀ (i : Nat) (hi : i < t.args.length), ∃ b' o', A = some ⟨b', o', none⟩ ∧ TyP w S d' t.args[i] b' (o' + i * 4) := by
  obtain ⟨hB, cs, hr, hd⟩ := h
  cases d with
  | zero => exact hd.elim
  | succ d =>
    obtain ⟨k, n, s, l⟩ := t
    obtain ⟨A, c, rfl, hn, hl, hs, hk⟩ := hd
    refine ⟨A, c, d, rfl, ⟨hr 0 _ rfl, hr 1 _ rfl, hr 2 _ rfl, hr 3 _ rfl⟩, hn, hl, hs, hB, fun i hi => ?_⟩
    obtain ⟨b', o', cs', e, hb', hr', hd'⟩ := hk i _ (List.getElem?_eq_getElem hi)
    exact ⟨b', o', e, hb', cs', hr', hd'⟩

/-- A closure that is asked about nodes: what it answers, and what becomes of what it keeps. -/
def Asked (w0 : World) (S : Nat → Prop) {σ : Type} (I : σ → World → Prop) (f : Nat) (cap : Array Value) (step : σ → Tt → σ × Bool) (good : σ → Tt → Prop) : Prop :=
  (∀ s w, I s w → Same S w0 w) ∧ (∀ (args : Array Value) (w : World), (callFunc f args).run Try.prog w = .ok (.enter f args) w) ∧ ∀ s w d t b o, I s w → good s t → TyP w S d t b o → Calls Try.prog f (#[.pointer (some ⟨b, o, none⟩)] ++ cap) w fun e w' => e = .returned (.bool (step s t).2) ∧ I (step s t).1 w'
theorem scan_take {σ : Type} {step : σ → Tt → σ × Bool} {s : σ} {l : List Tt} {k : Nat} (hk : k < l.length) (h : (scan step s (preL (l.take k))).2 = true) :
    scan step s (preL (l.take (k + 1))) = scan step (scan step s (preL (l.take k))).1 (pre l[k]) := by rw [preL_take l k hk, scan_app_yes step _ h]
theorem scan_stop {σ : Type} {step : σ → Tt → σ × Bool} {s : σ} {l : List Tt} {k : Nat} (hk : k < l.length) (h : (scan step s (preL (l.take (k + 1)))).2 = false) : scan step s (preL l) = scan step s (preL (l.take (k + 1))) := by
  have e : l = l.take (k + 1) ++ l.drop (k + 1) := (List.take_append_drop _ _).symm
  rw [show preL l = preL (l.take (k + 1)) ++ preL (l.drop (k + 1)) by rw [← preL_append, ← e], scan_app_no step _ h]
theorem scan_kids {σ : Type} {step : σ → Tt → σ × Bool} {s : σ} {t : Tt} (h : (step s t).2 = true) : scan step s (pre t) = scan step (step s t).1 (preL t.args) := by
  cases t; simp only [pre, Tt.args]; exact scan_yes step h _
set_option maxHeartbeats 1000000 in
theorem all_any {w0 : World} {S : Nat → Prop} {σ : Type} {I : σ → World → Prop} {f : Nat} {cap : Array Value} {step : σ → Tt → σ × Bool} {good : σ → Tt → Prop} (hA : Asked w0 S I f cap step good) :
    ∀ (d : Nat) (t : Tt) (s : σ) (w : World) (b o : Nat), I s w → goods step good s (pre t) → TyP w0 S d t b o →
      Calls Try.prog 40 #[.pointer (some ⟨b, o, none⟩), .func (.func f) #[] cap] w fun e w' => e = .returned (.bool (scan step s (pre t)).2) ∧ I (scan step s (pre t)).1 w' := by
  intro d
  induction d with
  | zero => intro t s w b o _ _ h; exact h.2.elim fun _ h => h.2.elim
  | succ d ih =>
    intro t s w b o hI hg hP
    have hX := hA.2.2 s w _ t b o hI (by cases t; exact hg.1) (hP.keep (hA.1 s w hI))
    obtain ⟨A, c, d', hd, hN, hn, hlen, hnm, hbB, hkids⟩ := hP.node
    obtain rfl : d = d' := by omega
    have HX := Lib.hid hX
    have HK := Lib.hid hkids
    have HN := Lib.hid hN
    have HI := Lib.hid hA.1
    have HIH := Lib.hid ih
    have HG : Hid ((step s t).2 = true → goods step good (step s t).1 (preL t.args)) := Lib.hid (by cases t; exact hg.2)
    have HSb := Lib.hid hbB
    clear hbB
    have HT := Lib.hid (t.eta)
    have hcf := hA.2.1
    clear hA hX hN hkids hd ih hP hg
    cases hs : (step s t).2
    · have HS := Lib.hid hs
      clear hs
      go_enter Try.func40, Try.ntmps40
      go_wp2_with fail
      refine HX.out.mono ?_
      rw [HS.out]
      rintro e w1 ⟨rfl, h1⟩
      go_wp2
      go_ret
      rw [scan_pre_no HT.out.symm HS.out]
      exact ⟨rfl, h1⟩
    · have HS := Lib.hid hs
      have HG := Lib.hid (HG.out hs)
      have HE := Lib.hid (scan_kids hs)
      clear hs
      go_enter Try.func40, Try.ntmps40
      go_wp2_with fail
      refine HX.out.mono ?_
      rw [HS.out]
      rintro e w1 ⟨rfl, h1⟩
      have HQ := Lib.hid h1
      have q3 := (HN.out.keep (HI.out _ _ h1) HSb.out).2.2.2
      clear h1
      generalize (step s t).1 = s1 at *
      go_wp2
      go_loopw [15] (fun z wr => ∃ k : Nat, k ≤ t.args.length ∧ z = .int .i64 k ∧ (scan step s1 (preL (t.args.take k))).2 = true ∧ I (scan step s1 (preL (t.args.take k))).1 wr) (fun z _ => t.args.length - (intOf z).toNat)
      case atStart => exact ⟨0, Nat.zero_le _, rfl, rfl, HQ.out⟩
      case round =>
        obtain ⟨k, hk, rfl, hy, hi⟩ := hrel
        have HY := Lib.hid hy
        have HJ := Lib.hid hi
        have q3' := (HN.out.keep (HI.out _ _ hi) HSb.out).2.2.2
        clear hy hi q3
        by_cases hlt : k < t.args.length
        · obtain ⟨b', o', rfl, hk'⟩ := HK.out k hlt
          have HK' := Lib.hid hk'
          have HC := Lib.hid (HIH.out t.args[k] _ wr b' (o' + k * 4) HJ.out (goods_kid hlt HG.out HY.out) hk')
          have HZ := Lib.hid (scan_take hlt HY.out)
          clear hk'
          rw [← HZ.out] at HC
          cases hs : (scan step s1 (preL (t.args.take (k + 1)))).2
          · have HS2 := Lib.hid hs
            have HST := Lib.hid (scan_stop hlt hs)
            clear hs
            go_wp2_with fail
            refine HC.out.mono ?_
            rw [HS2.out]
            rintro e w1 ⟨rfl, h1⟩
            have HR := Lib.hid h1
            clear h1
            go_wp2
            go_ret
            rw [HE.out, HST.out]
            exact ⟨ret_bool HS2.out.symm, HR.out⟩
          · have HS2 := Lib.hid hs
            clear hs
            go_wp2_with fail
            refine HC.out.mono ?_
            rw [HS2.out]
            rintro e w1 ⟨rfl, h1⟩
            have HR := Lib.hid h1
            clear h1
            go_wp2
            go_roundw
            case rel => exact ⟨k + 1, by omega, by go_num, HS2.out, HR.out⟩
            case measure => simp [intOf]; omega
        · obtain rfl : k = t.args.length := by omega
          rw [List.take_length] at HY HJ
          go_wp2
          go_ret
          rw [HE.out]
          exact ⟨ret_bool HY.out.symm, HJ.out⟩
end Go.Proofs.Ytgdclchpccbifaa
