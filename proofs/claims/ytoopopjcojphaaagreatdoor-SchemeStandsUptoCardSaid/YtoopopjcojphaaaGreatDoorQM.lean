import Derived.Test.YtoopopjcojphaaaGreatDoorQL
import Derived.Laws.AppendOwn
import Derived.Lib.AppendStr
import Derived.Lib.OthersKept
import Derived.Deep.CutBlock
import Derived.Deep.CutRange
import Derived.Deep.LoopGhost
/-
  show's WRITER: what it holds, and put.
-/
namespace Go.Proofs.YtoopopjcojphaaaGreatDoor
open Go.ChangeShapes Go.WideShapes Go.ChangeAt Go.RowKit
set_option linter.unusedVariables false
theorem byteInfo : (Tryz.prog.info? 5).map (fun i => (i.zero, i.size, i.bytes)) = some (some (.int .u8 0), 1, 1) := by kernel_rfl
theorem own_el {w : World} {base : Nat} {e : TypeId} {size n : Nat} {v : Value} {xs : List Value} (h : w.ownsRow base e size v n xs) : ∀ g, v.ownBlock = some g → ∃ c fz, w.heap[g]? = some (.cells c e fz) := fun g hg => by
  rcases h.2 with ⟨hv, _⟩ | ⟨g', cap, cur, hv, _, hh, _⟩
  · rw [hv] at hg; cases hg
  · rw [hv] at hg
    obtain rfl : g' = g := Option.some.inj hg
    exact ⟨_, _, hh⟩
theorem own_set {w : World} {base : Nat} {e : TypeId} {size n : Nat} {v : Value} {xs : List Value} (h : w.ownsRow base e size v n xs) (p : Addr) (u : Value) (hne : v.ownBlock ≠ some p.block) : (w.setCell p u).ownsRow base e size v n xs := by
  obtain ⟨h0, h⟩ := h
  refine ⟨h0, ?_⟩
  rcases h with h | ⟨g, cap, cur, hv, hb, hg, hr⟩
  · exact .inl h
  · refine .inr ⟨g, cap, cur, hv, hb, (Below.heap_setCell _ _ _ _ fun e => hne (by rw [hv, ← e]; rfl)).trans hg, hr⟩
theorem cell_new1 (w : World) (v : Value) (t : TypeId) : ∀ j u, [v][j]? = some u → (w.alloc (.cells #[v] t)).cell? ((⟨w.heap.size, 0, none⟩ : Addr).add j) = some u := fun j u hu => by
  have h : (w.alloc (.cells #[v] t)).heap[w.heap.size]? = some (.cells #[v] t (0, 0)) := heap_alloc_new _ _
  have h0 : j = 0 := by
    have := (List.getElem?_eq_some_iff.1 hu).1
    simp at this; exact this
  subst h0
  simp only [Addr.add, if_pos]
  unfold World.cell?
  rw [h]
  simpa using hu
/-- The writer at P, in blocks from B on, has written these bytes; does the next token follow without a blank? -/
def WS (B P : Nat) (w : World) (bs : List UInt8) (glue : Bool) : Prop := B ≤ P ∧ B ≤ w.heap.size ∧ ∃ v, w.heap[P]? = some (.cells #[v, .bool glue] 115 (0, 0)) ∧ w.ownsRow B 5 1 v bs.length (Lib.byteCells bs) ∧ v.ownBlock ≠ some P
abbrev KeptW (P : Nat) (w w' : World) : Prop := Lib.OthersKept 5 (some P) w w'
theorem WS.stored {B P : Nat} {w1 w2 : World} {bs2 : List UInt8} {v1 v2 : Value} {g g' : Bool} (hBP : B ≤ P) (hBw : B ≤ w1.heap.size) (hbk : w1.heap[P]? = some (.cells #[v1, .bool g] 115 (0, 0))) (hgrow : w1.grownBy w2 v1.ownBlock) (hne : v1.ownBlock ≠ some P)
    (hown : w2.ownsRow B 5 1 v2 bs2.length (Lib.byteCells bs2)) (hP : v2.ownBlock ≠ some P) : WS B P ((w2.setCell ⟨P, 0, none⟩ v2).setCell ⟨P, 1, none⟩ (.bool g')) bs2 g' := by
  have hlt : P < w1.heap.size := (Array.getElem?_eq_some_iff.1 hbk).1
  have h2 : w2.heap[P]? = some (.cells #[v1, .bool g] 115 (0, 0)) := (hgrow.block P hlt (fun e => hne e.symm)).trans hbk
  refine ⟨hBP, ?_, v2, ?_, own_set (own_set hown _ _ hP) _ _ hP, hP⟩
  · have := hgrow.size; simp; omega
  · exact heap_setCell_same _ P 1 _ _ _ (heap_setCell_same _ P 0 _ _ _ h2)
/-- What a writing leaves. -/
def Wrote (B P : Nat) (w : World) (bs : List UInt8) (glue : Bool) (e : Ending) (w' : World) : Prop := e = .returned (.tuple #[]) ∧ WS B P w' bs glue ∧ Below B w w' ∧ KeptW P w w'
/-- One token. -/
def putB (bs : List UInt8) (glue : Bool) (tok : ByteArray) : List UInt8 := bs ++ (if glue = true ∨ tok.toList = [41] ∨ tok.toList = [44] ∨ tok.toList = [59] then [] else [32]) ++ tok.data.toList
def putG' (tok : ByteArray) : Bool := tok.toList == [40] || tok.toList == [126] || tok.toList == [33]
set_option maxRecDepth 100000 in
set_option maxHeartbeats 8000000 in
theorem wput_any {B P : Nat} {w : World} {bs : List UInt8} {glue : Bool} (h : WS B P w bs glue) (hlen : bs.length ≤ 100000000) (tok : ByteArray) (ht : tok.size ≤ 1048576) (a : Nat) (ta : TypeId) (hta : ta ≠ 5) (ha : w.heap[a]? = some (.cells #[.string tok] ta (0, 0))) (haP : a ≠ P) :
    Calls Tryz.prog 88 #[.pointer (some ⟨P, 0, none⟩), .slice (some ⟨a, 0, none⟩) 1 1] w (Wrote B P w (putB bs glue tok) (putG' tok)) := by
  obtain ⟨i0, hi, hz0, hz1, hz2⟩ := info_parts byteInfo
  obtain ⟨hBP, hBw, v, hbk, hown, hne⟩ := h
  have c0 : w.cell? ⟨P, 0, none⟩ = some v := by rw [Lib.cell_of_heap hbk]; rfl
  have c1 : w.cell? ⟨P, 1, none⟩ = some (.bool glue) := by rw [Lib.cell_of_heap hbk]; rfl
  have ca : w.cell? ⟨a, 0, none⟩ = some (.string tok) := by rw [Lib.cell_of_heap ha]; rfl
  go_enter Tryz.func88, Tryz.ntmps88
  go_wp2
  go_loopg [8] 1 (fun m z wr => ∃ j : Nat, z = .int .i64 j ∧ ((j = 0 ∧ m = 1 ∧ wr = w) ∨ (j = 1 ∧ WS B P wr (putB bs glue tok) (putG' tok) ∧ Below B w wr ∧ KeptW P w wr)))
  case atStart => exact ⟨0, rfl, .inl ⟨rfl, rfl, rfl⟩⟩
  case round =>
    obtain ⟨j, rfl, hrel⟩ := hrel
    rcases hrel with ⟨rfl, rfl, rfl⟩ | ⟨rfl, h1, h2, h3⟩
    · go_upto_region 3 with fail
      go_cut [8, 28] from 8 to 60 (fun s8 s28 wx => s8 = .int .i64 0 ∧ s28 = .bool (!glue && !(tok.toList == [41]) && !(tok.toList == [44]) && !(tok.toList == [59])) ∧ wx = wr)
      case first =>
        cases glue <;> cases e41 : (tok.toList == [41]) <;> cases e44 : (tok.toList == [44]) <;> cases e59 : (tok.toList == [59])
        all_goals (go_wp2_with fail; go_meet; exact ⟨rfl, by simp [e41, e44, e59], rfl⟩)
      case rest =>
        obtain ⟨rfl, rfl, rfl⟩ := hcut
        cases hsp : (!glue && !(tok.toList == [41]) && !(tok.toList == [44]) && !(tok.toList == [59]))
        case false =>
          go_wp2_with (at_builtin; refine Lib.wpList_append_own_string _ rfl _ _ 113 9 rfl B 5 i0 Tryz.underlying113 Tryz.underlying9 hi hz0 hz1 hz2 _ _ _ rfl hown tok rfl ?c3 ?c4 ?c5 ?_)
          case c3 => unfold maxLen; omega
          case c4 => omega
          case c5 => exact hBw
          intro v' w2 hown' hgrow _
          have hBS : putB bs glue tok = bs ++ tok.data.toList := by
            unfold putB
            rw [if_pos]
            · simp
            · cases glue with
              | true => exact .inl rfl
              | false =>
                by_cases a1 : tok.toList = [41]
                · exact .inr (.inl a1)
                by_cases a2 : tok.toList = [44]
                · exact .inr (.inr (.inl a2))
                exact .inr (.inr (.inr (by simpa [a1, a2] using hsp)))
          have hln : (putB bs glue tok).length = bs.length + tok.size := by rw [hBS, List.length_append]; rfl
          have hown2 : w2.ownsRow B 5 1 v' (putB bs glue tok).length (Lib.byteCells (putB bs glue tok)) := by
            rw [hln, hBS]
            have e : Lib.byteCells (bs ++ tok.data.toList) = Lib.byteCells bs ++ Lib.strCells tok := by rw [Lib.strCells_eq]; simp [Lib.byteCells]
            rw [e]; exact hown'
          have hltP : P < wc.heap.size := (Array.getElem?_eq_some_iff.1 hbk).1
          have hP2 : v'.ownBlock ≠ some P := fun e => by
            obtain ⟨c, fz, hc⟩ := own_el hown2 P e
            rw [(hgrow.block P hltP (fun e => hne e.symm)).trans hbk] at hc
            simp at hc
          have hbe : Below B wc w2 := (Below.refl B wc).grown hgrow hBw (fun k hk => (hown.lt k hk).1)
          have hke : KeptW P wc w2 := (Lib.OthersKept.refl 5 (some P) wc).grown hgrow (fun g hg => own_el hown g hg)
          have HST := Lib.hid (fun g' => WS.stored (g' := g') hBP hBw hbk hgrow hne hown2 hP2)
          have HBE := Lib.hid (And.intro hbe hke)
          have h2P : w2.heap[P]? = some (.cells #[v, .bool glue] 115 (0, 0)) := (hgrow.block P hltP (fun e => hne e.symm)).trans hbk
          have d0 : w2.cell? ⟨P, 0, none⟩ = some v := by rw [Lib.cell_of_heap h2P]; rfl
          have d1 : w2.cell? ⟨P, 1, none⟩ = some (.bool glue) := by rw [Lib.cell_of_heap h2P]; rfl
          have f0 : w2.frozen? ⟨P, 0, none⟩ = false := Lib.frozen_of_heap h2P 0
          have f1 : w2.frozen? ⟨P, 1, none⟩ = false := Lib.frozen_of_heap h2P 1
          obtain ⟨ao, cp, rfl⟩ := own_form hown2
          clear hBS hln hown2 hP2 hbe hke h2P hown' hgrow hbk hown hne hsp
          cases e40 : (tok.toList == [40]) <;> cases e126 : (tok.toList == [126]) <;> cases e33 : (tok.toList == [33])
          all_goals
            go_wp2
            go_roundg 0
            case measure => omega
            case rel =>
              refine ⟨1, by go_num, .inr ⟨rfl, ?_, ?_, ?_⟩⟩
              · have := HST.out (putG' tok); unfold putG' at this ⊢; rw [e40, e126, e33] at this ⊢; exact this
              · exact (HBE.out.1.setCell (p := ⟨P, 0, none⟩) hBP _).setCell (p := ⟨P, 1, none⟩) hBP _
              · exact (HBE.out.2.setCell ⟨P, 0, none⟩ rfl _).setCell ⟨P, 1, none⟩ rfl _
        case true =>
          go_wp2_with (at_builtin; refine wpList_append_own _ rfl _ _ 113 rfl B 5 i0 (.int .u8 0) 1 1 Tryz.underlying113 hi hz0 hz1 hz2 rfl (by decide) _ _ _ rfl (hown.alloc _) ⟨wc.heap.size, 0, none⟩ 1 1 [.int .u8 32] rfl rfl ?c1 ?c2 ?c3 ?c4 ?c5 ?_)
          case c1 => exact cell_new1 _ _ _
          case c2 => simp [Value.oneCell']
          case c3 => unfold maxLen; omega
          case c4 => omega
          case c5 => simp; omega
          intro v5 w4 hown4 hgrow4 _
          have hltP0 : P < wc.heap.size := (Array.getElem?_eq_some_iff.1 hbk).1
          have h4P : w4.heap[P]? = some (.cells #[v, .bool glue] 115 (0, 0)) := by
            rw [hgrow4.block P (by simp; omega) (fun e => hne e.symm)]
            rw [((Below.refl wc.heap.size wc).alloc (Nat.le_refl _) _).block _ hltP0]
            exact hbk
          have hne5 : v5.ownBlock ≠ some P := fun e => by
            obtain ⟨c, fz, hc⟩ := own_el hown4 P e
            rw [h4P] at hc
            simp at hc
          have g0 : w4.cell? ⟨P, 0, none⟩ = some v := by rw [Lib.cell_of_heap h4P]; rfl
          have g1 : w4.frozen? ⟨P, 0, none⟩ = false := Lib.frozen_of_heap h4P 0
          obtain ⟨w5, hw5⟩ : ∃ w5, w5 = w4.setCell ⟨P, 0, none⟩ v5 := ⟨_, rfl⟩
          have hown5 : w5.ownsRow B 5 1 v5 (bs.length + 1) (Lib.byteCells (bs ++ [32])) := by
            rw [hw5]
            have e : Lib.byteCells (bs ++ [32]) = Lib.byteCells bs ++ [.int .u8 32] := by simp [Lib.byteCells]
            have := own_set hown4 ⟨P, 0, none⟩ v5 hne5
            rw [e]; simpa using this
          have hbk5 : w5.heap[P]? = some (.cells #[v5, .bool glue] 115 (0, 0)) := by rw [hw5]; exact heap_setCell_same _ P 0 _ _ _ h4P
          have hb5 : Below B wc w5 := by
            rw [hw5]
            exact (((Below.refl B wc).alloc hBw _).grown hgrow4 (by simp; omega) (fun k hk => (hown.lt k hk).1)).setCell (p := ⟨P, 0, none⟩) hBP _
          have hk5 : KeptW P wc w5 := by
            rw [hw5]
            exact (((Lib.OthersKept.refl 5 (some P) wc).alloc _).grown hgrow4 (fun k hk => own_el (hown.alloc _) k hk)).setCell ⟨P, 0, none⟩ rfl _
          have hBw5 : B ≤ w5.heap.size := Nat.le_trans hBw hb5.size
          have k0 : w5.cell? ⟨P, 0, none⟩ = some v5 := by rw [Lib.cell_of_heap hbk5]; rfl
          obtain ⟨ao5, cp5, hv5⟩ := own_form hown5
          subst hv5
          subst hw5
          clear h4P hown4 hgrow4
          go_wp2_with (at_builtin; refine Lib.wpList_append_own_string _ rfl _ _ 113 9 rfl B 5 i0 Tryz.underlying113 Tryz.underlying9 hi hz0 hz1 hz2 _ _ _ rfl hown5 tok rfl ?c3 ?c4 ?c5 ?_)
          case c3 => unfold maxLen; omega
          case c4 => omega
          case c5 => exact hBw5
          intro v' w2 hown' hgrow _
          have hBS : putB bs glue tok = (bs ++ [32]) ++ tok.data.toList := by
            unfold putB
            rw [if_neg]
            rintro (h | h | h | h)
            · rw [h] at hsp; simp at hsp
            · rw [h] at hsp; simp at hsp
            · rw [h] at hsp; simp at hsp
            · rw [h] at hsp; simp at hsp
          have hln : (putB bs glue tok).length = bs.length + 1 + tok.size := by rw [hBS, List.length_append, List.length_append]; rfl
          have hown2 : w2.ownsRow B 5 1 v' (putB bs glue tok).length (Lib.byteCells (putB bs glue tok)) := by
            rw [hln, hBS]
            have e : Lib.byteCells ((bs ++ [32]) ++ tok.data.toList) = Lib.byteCells (bs ++ [32]) ++ Lib.strCells tok := by rw [Lib.strCells_eq]; simp [Lib.byteCells]
            rw [e]; exact hown'
          have hltP : P < (w4.setCell ⟨P, 0, none⟩ (.slice ao5 (bs.length + 1) cp5)).heap.size := (Array.getElem?_eq_some_iff.1 hbk5).1
          have hP2 : v'.ownBlock ≠ some P := fun e => by
            obtain ⟨c, fz, hc⟩ := own_el hown2 P e
            rw [(hgrow.block P hltP (fun e => hne5 e.symm)).trans hbk5] at hc
            simp at hc
          have hbe : Below B wc w2 := hb5.grown hgrow hBw5 (fun k hk => (hown5.lt k hk).1)
          have hke : KeptW P wc w2 := hk5.grown hgrow (fun g hg => own_el hown5 g hg)
          have HST := Lib.hid (fun g' => WS.stored (g' := g') hBP hBw5 hbk5 hgrow hne5 hown2 hP2)
          have HBE := Lib.hid (And.intro hbe hke)
          have h2P : w2.heap[P]? = some (.cells #[.slice ao5 (bs.length + 1) cp5, .bool glue] 115 (0, 0)) := (hgrow.block P hltP (fun e => hne5 e.symm)).trans hbk5
          have d0 : w2.cell? ⟨P, 0, none⟩ = some (.slice ao5 (bs.length + 1) cp5) := by rw [Lib.cell_of_heap h2P]; rfl
          have d1 : w2.cell? ⟨P, 1, none⟩ = some (.bool glue) := by rw [Lib.cell_of_heap h2P]; rfl
          have f0 : w2.frozen? ⟨P, 0, none⟩ = false := Lib.frozen_of_heap h2P 0
          have f1 : w2.frozen? ⟨P, 1, none⟩ = false := Lib.frozen_of_heap h2P 1
          obtain ⟨ao, cp, rfl⟩ := own_form hown2
          clear hBS hln hown2 hP2 hbe hke h2P hown' hgrow hbk5 hown5 hne5 hsp hbk hown hne hb5 hk5
          cases e40 : (tok.toList == [40]) <;> cases e126 : (tok.toList == [126]) <;> cases e33 : (tok.toList == [33])
          all_goals
            go_wp2
            go_roundg 0
            case measure => omega
            case rel =>
              refine ⟨1, by go_num, .inr ⟨rfl, ?_, ?_, ?_⟩⟩
              · have := HST.out (putG' tok); unfold putG' at this ⊢; rw [e40, e126, e33] at this ⊢; exact this
              · exact (HBE.out.1.setCell (p := ⟨P, 0, none⟩) hBP _).setCell (p := ⟨P, 1, none⟩) hBP _
              · exact (HBE.out.2.setCell ⟨P, 0, none⟩ rfl _).setCell ⟨P, 1, none⟩ rfl _
    · have H1 := Lib.hid h1
      have H2 := Lib.hid h2
      have H3 := Lib.hid h3
      clear h1 h2 h3
      go_wp2
      go_end0
      exact ⟨rfl, H1.out, H2.out, H3.out⟩
end Go.Proofs.YtoopopjcojphaaaGreatDoor
