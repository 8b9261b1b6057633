/-
  CONTRACTS OF lex, V: Scan.
-/
import Derived.Test.YtkogfdbmgdajdaaDoorLexD
import Derived.Laws.AppendOwn
import Derived.Laws.Tables
import Derived.Laws.CopyOwn
import Derived.Deep.DeepCutAuto
namespace Go.Proofs.YtkogfdbmgdajdaaDoor
open Go.ChangeShapes Go.WideShapes Go.ChangeAt Go.RowKit
set_option linter.unusedVariables false
def tkV (t : Tk) : List Value := [.int .i64 t.kind, .int .i64 t.at_, .string t.text, .int .i64 t.n]
def tkCells (l : List Tk) : List Value := l.flatMap tkV
theorem tkCells_snoc (l : List Tk) (t : Tk) : tkCells (l ++ [t]) = tkCells l ++ tkV t := by simp [tkCells]
theorem tkCells_len (l : List Tk) : (tkCells l).length = l.length * 4 := by
  induction l with
  | nil => rfl
  | cons t l ih => unfold tkCells at *; rw [List.flatMap_cons, List.length_append, ih]; simp [tkV]; omega
theorem tkCells_get : ∀ (l : List Tk) (k : Nat) (t : Tk), l[k]? = some t → ∀ j u, j < 4 → (tkV t)[j]? = some u → (tkCells l)[k * 4 + j]? = some u
  | [], k, t, h, _, _, _, _ => by simp at h
  | x :: l, 0, t, h, j, u, hj, hu => by
    simp only [List.getElem?_cons_zero, Option.some.injEq] at h
    subst h
    unfold tkCells
    rw [List.flatMap_cons, Nat.zero_mul, Nat.zero_add, List.getElem?_append_left (by simp [tkV]; exact hj)]
    exact hu
  | x :: l, k + 1, t, h, j, u, hj, hu => by
    simp only [List.getElem?_cons_succ] at h
    have := tkCells_get l k t h j u hj hu
    unfold tkCells at *
    rw [List.flatMap_cons, show (k + 1) * 4 + j = (tkV x).length + (k * 4 + j) by simp [tkV]; omega, List.getElem?_append_right (by omega), Nat.add_sub_cancel_left]
    exact this
/-- The cells from A on hold the tokens of l; all lie below block B. -/
def ToksAt (w : World) (B : Nat) (A : Option Addr) (l : List Tk) : Prop :=
  ∀ (k : Nat) (t : Tk), l[k]? = some t → ∃ ad : Addr, A = some ad ∧ ad.block < B ∧ ∀ j u, j < 4 → (tkV t)[j]? = some u → w.cell? (ad.add (k * 4 + j)) = some u
section
variable {w w' : World} {B B' : Nat} {A : Option Addr} {l : List Tk}
theorem ToksAt.nil : ToksAt w B A [] := fun k x h => by simp at h
theorem ToksAt.keep (h : ToksAt w B A l) (hk : ∀ p : Addr, p.block < B → w'.cell? p = w.cell? p) : ToksAt w' B A l := fun k x hx => by
  obtain ⟨ad, e, hb, hc⟩ := h k x hx
  exact ⟨ad, e, hb, fun j u hj hu => (hk _ (by rw [block_add]; exact hb)).trans (hc j u hj hu)⟩
theorem ToksAt.more (h : ToksAt w B A l) (hB : B ≤ B') : ToksAt w B' A l := fun k x hx => by
  obtain ⟨ad, e, hb, hc⟩ := h k x hx
  exact ⟨ad, e, by omega, hc⟩
theorem ToksAt.below (h : ToksAt w B A l) (hb : Below B w w') : ToksAt w' B A l := h.keep fun _ hp => hb.cell hp
theorem ToksAt.take (h : ToksAt w B A l) (n : Nat) : ToksAt w B A (l.take n) := fun k x hx => h k x (by
  rw [List.getElem?_take] at hx
  split at hx
  · exact hx
  · cases hx)
end
theorem toks_own {w : World} {base : Nat} {e : TypeId} {A : Option Addr} {n c : Nat} {l : List Tk} (h : w.ownsRow base e 4 (.slice A n c) n (tkCells l)) : n = l.length ∧ ToksAt w w.heap.size A l ∧ n ≤ c ∧ c ≤ maxLen := by
  have hl : n = l.length := by have := h.1; rw [tkCells_len] at this; omega
  refine ⟨hl, fun k x hx => ?_, ?_⟩
  · rcases h.2 with ⟨hv, h0⟩ | ⟨g, cap, cur, hv, _, hh, _⟩
    · have := (List.getElem?_eq_some_iff.1 hx).1; omega
    · injection hv with hA
      subst hA
      have hlt : g < w.heap.size := by
        rcases Nat.lt_or_ge g w.heap.size with h' | h'
        · exact h'
        · rw [Array.getElem?_eq_none h'] at hh; cases hh
      exact ⟨_, rfl, hlt, fun j u hj hu => h.cells (g := g) rfl _ u (tkCells_get l k x hx j u hj hu)⟩
  · rcases h.2 with ⟨hv, h0⟩ | ⟨g, cap, cur, hv, _, _, hnc, hcm, _⟩
    · injection hv with _ _ hc
      subst hc
      exact ⟨by omega, Nat.zero_le _⟩
    · injection hv with _ _ hc
      subst hc
      exact ⟨hnc, hcm⟩
theorem own_form4 {w : World} {base : Nat} {e : TypeId} {v : Value} {n : Nat} {cs : List Value} (h : w.ownsRow base e 4 v n cs) : ∃ A c, v = .slice A n c := by
  rcases h.2 with ⟨hv, h0⟩ | ⟨g, cap, cur, hv, _⟩
  · exact ⟨_, _, by rw [hv, h0]⟩
  · exact ⟨_, _, hv⟩

/-! ### Steps of the scan -/
theorem one_open {s : ByteArray} {i c a : Nat} {g : Bool} (h : sk s i = (a, false)) : one s i c g = .bad 12 a := by unfold one; rw [h]; rfl
theorem one_fin {s : ByteArray} {i c : Nat} {g : Bool} (h : sk s i = (s.size, true)) : one s i c g = .fin := by unfold one; rw [h]; simp
theorem one_many {s : ByteArray} {i c a : Nat} {g : Bool} (h : sk s i = (a, true)) (h2 : a ≠ s.size) (h3 : c = 16384) : one s i c g = .bad 4 a := by unfold one; rw [h]; simp [h2, h3]
theorem one_err {s : ByteArray} {i c a : Nat} {g : Bool} (h : sk s i = (a, true)) (h2 : a ≠ s.size) (h3 : c ≠ 16384) (h4 : tokErr (s.extract a (tokEnd s a)) g ≠ 0) : one s i c g = .bad (tokErr (s.extract a (tokEnd s a)) g) a := by
  unfold one; rw [h]; simp only; rw [if_neg (by simp), if_neg h2, if_neg h3, if_pos h4]
theorem one_more {s : ByteArray} {i c a : Nat} {g : Bool} (h : sk s i = (a, true)) (h2 : a ≠ s.size) (h3 : c ≠ 16384) (h4 : tokErr (s.extract a (tokEnd s a)) g = 0) : one s i c g = .tok (tokOf (s.extract a (tokEnd s a)) a) (tokEnd s a) := by
  unfold one; rw [h]; simp only; rw [if_neg (by simp), if_neg h2, if_neg h3, if_neg (by rw [h4]; simp)]
theorem tok_digits {s : ByteArray} {a : Nat} (ha : a < s.size) (hk : kindM (s.extract a (tokEnd s a)) = 1) : ∀ k, k < (s.extract a (tokEnd s a)).size → dg (bt (s.extract a (tokEnd s a)) k) = true := by
  have he := tokEnd_le ha
  have hd : dg (bt (s.extract a (tokEnd s a)) 0) = true := by
    cases hd : dg (bt (s.extract a (tokEnd s a)) 0)
    · exfalso
      unfold kindM at hk
      rw [if_neg (by simp [hd])] at hk
      repeat' split at hk
      all_goals cases hk
    · rfl
  intro k hkl
  rw [ext_size he] at hkl
  rw [bt_ext he, if_pos (by omega), Nat.add_zero] at hd
  rw [bt_ext he, if_pos hkl]
  have hE : tokEnd s a = rend dg s (a + 1) := by unfold tokEnd; rw [if_pos hd]
  rw [hE] at hkl
  by_cases h0 : k = 0
  · subst h0; exact hd
  · exact (rend_spec (s := s) dg256 (a + 1)).2.1 _ (by omega) (by omega)

theorem tInfo : (Tryd.prog.info? 33).map (fun i => (i.zero, i.size, i.bytes)) = some (some (.agg #[.int .i64 0, .int .i64 0, .string ⟨#[]⟩, .int .i64 0]), 4, 40) := by kernel_rfl
def bad0 : Array Value := #[.int .i64 0, .int .i64 0, .string ⟨#[]⟩]
theorem badI (x y : Value) : (Tryd.prog.info? 26).map (·.size) = some (#[x, y, .string ⟨#[]⟩] : Array Value).size := by kernel_rfl
theorem skip_is (s : ByteArray) (i : Nat) (hi : i ≤ s.size) (hs : s.size ≤ maxLen) (w : World) (a : Nat) (b : Bool) (h : sk s i = (a, b)) : Calls Tryd.prog 19 #[.string s, .int .i64 i] w fun e w' => e = .returned (.tuple #[.int .i64 (a : Nat), .bool b]) ∧ w = w' := by
  have := skip_any s i hi hs w
  rw [h] at this
  exact this
theorem end_is (s : ByteArray) (a B : Nat) (ha : a < s.size) (hs : s.size ≤ maxLen) (w : World) (hT : Tabs w) (hc : w.cell? ⟨B, 0, none⟩ = some (.string s)) (x : Nat) (hx : tokEnd s a = x) :
    Calls Tryd.prog 26 #[.int .i64 a, .pointer (some ⟨B, 0, none⟩)] w fun e w' => e = .returned (.int .i64 (x : Nat)) ∧ w = w' := by
  subst hx; exact end_any s a B ha hs w hT hc
theorem one3 (x y : Int) : (#[Value.int .i64 x, .int .i64 y, .string ⟨#[]⟩] : Array Value).all (·.oneCell') = true := by simp [Value.oneCell']
/-- What Scan returns. -/
def ScanPost (s : ByteArray) (w : World) (e : Ending) (w' : World) : Prop :=
  ∃ (A : Option Addr) (c : Nat) (l : List Tk) (k a : Nat), e = .returned (.tuple #[.slice A l.length c, .agg #[.int .i64 k, .int .i64 a, .string ⟨#[]⟩]]) ∧ scanM s = (k, a, l) ∧ ToksAt w' w'.heap.size A l ∧ l.length ≤ c ∧ c ≤ maxLen ∧ (A = none → c = 0) ∧ Below w.heap.size w w'
/-- The state at the head of a round. -/
structure ScanAt (s : ByteArray) (w : World) (i : Nat) (acc : List Tk) (A : Option Addr) (c : Nat) (wr : World) : Prop where
  reach : Reach s i acc
  own : wr.ownsRow (w.heap.size + 2) 33 4 (.slice A acc.length c) acc.length (tkCells acc)
  row : wr.heap[w.heap.size]? = some (.cells bad0 26 (0, 0))
  str : wr.cell? ⟨w.heap.size + 1, 0, none⟩ = some (.string s)
  size : w.heap.size + 2 ≤ wr.heap.size
  below : Below w.heap.size w wr
def ScanRel (s : ByteArray) (w : World) (n : Nat) (x y : Value) (wr : World) : Prop :=
  ∃ i acc A c, n = s.size + 1 - i ∧ x = .slice A acc.length c ∧ y = .int .i64 (i : Nat) ∧ acc.length ≤ 16384 ∧ ScanAt s w i acc A c wr
theorem scan_end {s : ByteArray} {w wr : World} {i : Nat} {acc : List Tk} {A : Option Addr} {c k a : Nat} (hs : s.size ≤ 65536) (h : ScanAt s w i acc A c wr) (h1 : one s i acc.length (neg acc) = .bad k a) (wf : World) (hf : Below w.heap.size w wf) :
    ScanPost s w (.returned (.tuple #[.slice none 0 0, .agg #[.int .i64 (k : Nat), .int .i64 (a : Nat), .string ⟨#[]⟩]])) wf :=
  ⟨none, 0, [], k, a, rfl, scan_bad hs h.reach h1, ToksAt.nil, Nat.zero_le _, Nat.zero_le _, fun _ => rfl, hf⟩
theorem last_cell {w : World} {base : Nat} {e : TypeId} {A : Option Addr} {c m : Nat} {l : List Tk} (h : w.ownsRow base e 4 (.slice A l.length c) l.length (tkCells l)) (hm : l.length = m + 1) :
    ∃ g, A = some ⟨g, 0, none⟩ ∧ ∃ t, l[m]? = some t ∧ w.cell? ⟨g, m * 4 + 2, none⟩ = some (.string t.text) := by
  rcases h.2 with ⟨hv, h0⟩ | ⟨g, cap, cur, hv, _, hh, _⟩
  · omega
  · injection hv with hA
    have ht : l[m]? = some (l[m]'(by omega)) := List.getElem?_eq_getElem (by omega)
    have := h.cells (g := g) (by rw [hA]; rfl) (m * 4 + 2) _ (tkCells_get l m _ ht 2 _ (by omega) rfl)
    simp [Addr.add] at this
    exact ⟨g, hA, _, ht, this⟩
theorem keep_two {s : ByteArray} {w wr w1 : World} {i : Nat} {acc : List Tk} {A : Option Addr} {c : Nat} (h : ScanAt s w i acc A c wr) (hb : Below wr.heap.size wr w1) (o : Obj) : Below w.heap.size w (w1.alloc o) := by
  have h1 := h.size
  have h2 := hb.size
  exact (h.below.trans (hb.mono (by omega))).alloc (by omega) o
theorem own_two {s : ByteArray} {w wr w1 : World} {i : Nat} {acc : List Tk} {A : Option Addr} {c : Nat} (h : ScanAt s w i acc A c wr) (hb : Below wr.heap.size wr w1) (o o' : Obj) :
    ((w1.alloc o).alloc o').ownsRow (w.heap.size + 2) 33 4 (.slice A acc.length c) acc.length (tkCells acc) :=
  ((h.own.kept (row := none) ⟨hb.os, hb.tape, hb.output, hb.size, fun i hi _ => hb.block i hi⟩ (by cases (Value.slice A acc.length c).ownBlock <;> simp)).alloc o).alloc o'
theorem heap_new1 (w : World) (o : Obj) : (w.alloc o).heap[w.heap.size]? = some o := by
  show (w.heap.push o)[w.heap.size]? = some o
  simp only [Array.getElem?_push_size]
theorem new_cells (w : World) (cs : List Value) (t : TypeId) : ∀ j u, cs[j]? = some u → (w.alloc (.cells cs.toArray t)).cell? ((⟨w.heap.size, 0, none⟩ : Addr).add j) = some u := fun j u hu => by
  have h := heap_new1 w (.cells cs.toArray t)
  have e : (⟨w.heap.size, 0, none⟩ : Addr).add j = ⟨w.heap.size, j, none⟩ := by
    unfold Addr.add
    by_cases hj : j = 0
    · simp [hj]
    · simp [hj]
  rw [e]
  unfold World.cell?
  rw [h]
  simpa using hu
theorem scan_start (s : ByteArray) (w : World) : ScanRel s w (s.size + 1) (.slice none 0 0) (.int .i64 0) ((w.alloc (.cells #[.int .i64 0, .int .i64 0, .string ⟨#[]⟩] 26)).alloc (.cells #[.string s] 9)) := by
  refine ⟨0, [], none, 0, rfl, rfl, rfl, by simp, .start, ⟨rfl, .inl ⟨rfl, rfl⟩⟩, ?_, ?_, ?_, ?_⟩
  · rw [((Below.refl _ _).alloc (Nat.le_refl _) _).block _ (by simp)]
    exact heap_new1 w _
  · have h := new_cells (w.alloc (.cells #[.int .i64 0, .int .i64 0, .string ⟨#[]⟩] 26)) [.string s] 9 0 _ rfl
    rw [World.size_alloc] at h
    exact h
  · simp
  · exact ((Below.refl _ _).alloc (Nat.le_refl _) _).alloc (by simp) _
theorem scan_next {s : ByteArray} {w wr w1 w2 : World} {i a x : Nat} {acc : List Tk} {A : Option Addr} {c : Nat} {g : Bool} {v' : Value} {o o' : Obj} (h : ScanAt s w i acc A c wr) (hb : Below wr.heap.size wr w1) (hat : a < s.size) (haz : ¬ a = s.size) (hxs : x ≤ s.size) (hsk : sk s i = (a, true))
    (hf : ¬ acc.length = 16384) (hx : tokEnd s a = x) (hg : neg acc = g) (hk : ((tokErr (s.extract a x) g : Nat) : Int) = 0)
    (hown : w2.ownsRow (w.heap.size + 2) 33 4 v' (acc.length + 1) (tkCells acc ++ [.int .i64 ((kindM (s.extract a x) : Nat) : Int), .int .i64 a, .string (s.extract a x), .int .i64 ((tokN (s.extract a x) : Nat) : Int)]))
    (hgr : ((w1.alloc o).alloc o').grownBy w2 (Value.slice A acc.length c).ownBlock) (hlen : acc.length + 1 ≤ 16384) : ScanRel s w (s.size + 1 - x) v' (.int .i64 (x : Nat)) w2 := by
  subst hx; subst hg
  have hone := one_more hsk haz hf (g := neg acc) (by omega)
  obtain ⟨A', c', rfl⟩ := own_form4 hown
  have hl : acc.length + 1 = (acc ++ [tokOf (s.extract a (tokEnd s a)) a]).length := by simp
  have h1 := h.size
  have h2 := hb.size
  have hB : Below (w.heap.size + 2) wr w2 := (((hb.mono h1).alloc (by omega) o).alloc (by simp; omega) o').grown hgr (by simp; omega) (fun k hk => (h.own.lt k hk).1)
  refine ⟨tokEnd s a, acc ++ [tokOf (s.extract a (tokEnd s a)) a], A', c', rfl, by rw [hl], rfl, by simp; omega, .step h.reach hone, ?_, ?_, ?_, ?_, ?_⟩
  · rw [← hl, tkCells_snoc]; exact hown
  · rw [hB.block _ (by omega)]; exact h.row
  · rw [hB.cell (p := ⟨w.heap.size + 1, 0, none⟩) (by show w.heap.size + 1 < _; omega)]; exact h.str
  · have := hB.size; omega
  · exact h.below.trans (hB.mono (by omega))
theorem scan_fault {s : ByteArray} {w wr wf : World} {i a x : Nat} {acc : List Tk} {A : Option Addr} {c : Nat} {g : Bool} {k : Int} (hs : s.size ≤ 65536) (hat : a < s.size) (haz : ¬ a = s.size) (h : ScanAt s w i acc A c wr) (hsk : sk s i = (a, true)) (hf : ¬ acc.length = 16384)
    (hx : tokEnd s a = x) (hg : neg acc = g) (hk : ((tokErr (s.extract a x) g : Nat) : Int) = k) (hk0 : ¬ k = 0) (hb : Below w.heap.size w wf) :
    ScanPost s w (.returned (.tuple #[.slice none 0 0, .agg #[.int .i64 k, .int .i64 (a : Nat), .string ⟨#[]⟩]])) wf := by
  subst hx; subst hg; subst hk
  exact scan_end hs h (one_err hsk haz hf (by omega)) wf hb
theorem setRow_other {w : World} {g k : Nat} {cs : Array Value} (h : k ≠ g) : (w.setRow g cs).heap[k]? = w.heap[k]? := by
  unfold World.setRow
  simp only [Array.getElem?_modify]
  rw [if_neg (fun e => h e.symm)]
theorem neg_last {acc : List Tk} {m : Nat} {t : Tk} {y : ByteArray} (hm : acc.length = m + 1) (ht : acc[m]? = some t) (hy : t.text = y) : neg acc = (y.toList == [126]) := by
  unfold neg
  rw [List.getLast?_eq_getElem?, hm, Nat.add_sub_cancel, ht]
  simp only
  rw [hy, ByteArray.toList_eq, Bool.eq_iff_iff]; simp
theorem scan_done {s : ByteArray} {w wr : World} {i : Nat} {acc : List Tk} {A : Option Addr} {c : Nat} (hs : s.size ≤ 65536) (h : ScanAt s w i acc A c wr) (h1 : one s i acc.length (neg acc) = .fin) {cs : Array Value} :
    ScanPost s w (.returned (.tuple #[.slice A acc.length c, .agg #[.int .i64 (0 : Nat), .int .i64 (0 : Nat), .string ⟨#[]⟩]])) (wr.setRow w.heap.size cs) := by
  obtain ⟨_, h2, h3, h4⟩ := toks_own h.own
  refine ⟨A, c, acc, 0, 0, rfl, scan_fin hs h.reach h1, ?_, h3, h4, fun hA => ?_, below_setRow h.below (Nat.le_refl _) _⟩
  · intro k t hk
    rcases h.own.2 with ⟨hv, h0⟩ | ⟨g, cap, cur, hv, hg, hh, _⟩
    · have := (List.getElem?_eq_some_iff.1 hk).1; omega
    · injection hv with hA
      subst hA
      obtain ⟨ad, e, hb, hc⟩ := h2 k t hk
      cases e
      refine ⟨_, rfl, by rw [size_setRow]; exact hb, fun j u hj hu => ?_⟩
      rw [← hc j u hj hu]
      unfold World.cell?
      rw [setRow_other]
      rw [block_add]; show g ≠ _; omega
  · subst hA
    rcases h.own.2 with ⟨hv, _⟩ | ⟨g, cap, cur, hv, _⟩
    · injection hv
    · injection hv with hv; cases hv
theorem row_then {s : ByteArray} {w wr w1 : World} {i : Nat} {acc : List Tk} {A : Option Addr} {c : Nat} (h : ScanAt s w i acc A c wr) (hb : Below wr.heap.size wr w1) (o : Obj) : (w1.alloc o).heap[w.heap.size]? = some (.cells bad0 26 (0, 0)) := by
  have h1 := h.size
  have h2 := hb.size
  rw [((Below.refl w1.heap.size w1).alloc (Nat.le_refl _) o).block _ (by omega), hb.block _ (by omega)]
  exact h.row
theorem setRow_row {w : World} {g : Nat} {old cs : Array Value} {t : TypeId} {fr : Nat × Nat} (h : w.heap[g]? = some (.cells old t fr)) : (w.setRow g cs).heap[g]? = some (.cells cs t fr) := by
  unfold World.setRow
  simp only [Array.getElem?_modify, if_pos, h, Option.map_some]
theorem results_scan {tmps : Array Value} {w : World} {g : Nat} {v x y : Value} (hv : tmps.getD 2 undef = v) (hp : tmps.getD 3 undef = .pointer (some ⟨g, 0, none⟩)) (hg : w.heap[g]? = some (.cells #[x, y, .string ⟨#[]⟩] 26 (0, 0))) :
    (results Tryd.f8 tmps).run Tryd.prog w = .ok (.tuple #[v, .agg #[x, y, .string ⟨#[]⟩]]) w := by
  have hp' : tmps[3]?.getD undef = .pointer (some ⟨g, 0, none⟩) := by simpa using hp
  have hv' : tmps[2]?.getD undef = v := by simpa using hv
  simp [results, Tryd.f8, hp', hv', asAddr, run_loadVar_row w g 26 26 _ _ _ hg Tryd.underlying26 rfl (badI x y)]
set_option maxRecDepth 100000 in
set_option maxHeartbeats 4000000 in
theorem scan_short (s : ByteArray) (hs : s.size ≤ 65536) (w : World) (hT : Tabs w) : Calls Tryd.prog 8 #[.string s] w (ScanPost s w) := by
  have HT := Lib.hid hT
  clear hT
  obtain ⟨i0, hi, hz0, hz1, hz2⟩ := info_parts tInfo
  have HI := Lib.hid (And.intro hi (And.intro hz0 (And.intro hz1 hz2)))
  clear hi hz0 hz1 hz2
  have HS : Hid (s.size ≤ maxLen) := Lib.hid (by unfold maxLen; omega)
  have hl0 : ¬ (65536 : Int) < s.size := by omega
  go_enter Tryd.func8, Tryd.ntmps8
  go_wp2_with (go_at_call 18; refine (endFinder_any s _).mono ?_; rintro e w' ⟨rfl, rfl⟩)
  go_loopg [4, 6] (s.size + 1) (fun n x y wr => ScanRel s w n x y wr)
  case atStart => exact scan_start s w
  case round =>
    obtain ⟨i, acc, A, c, rfl, rfl, rfl, hacc, hat⟩ := hrel
    have HA := Lib.hid hat
    have hi := (reach_le hat.reach).1
    have hTr : Hid (Tabs wr) := Lib.hid (HT.out.on hat.below)
    have hstr := hat.str
    have hsz := hat.size
    clear hat
    obtain ⟨a, b, hsk⟩ : ∃ a b, sk s i = (a, b) := ⟨_, _, rfl⟩
    have hr := sk_range hi
    rw [hsk] at hr
    obtain ⟨ha1, ha2, _⟩ := hr
    have HK := Lib.hid hsk
    clear hsk
    simp only at ha1 ha2
    cases b with
    | false =>
      go_wp2_with (first | ((with_reducible refine (skip_is s i hi HS.out _ a _ HK.out).mono ?_); rintro e w' ⟨rfl, rfl⟩) | (refine wpList_store_row rfl 26 _ _ rfl w.heap.size #[.int .i64 12, .int .i64 a, .string ⟨#[]⟩] rfl rfl 26 bad0 HA.out.row (badI _ _) rfl (one3 _ _) ?_))
      try rw [Exit.noGoto_ret]
      refine bodyPost_ret (v := .tuple #[.slice none 0 0, .agg #[.int .i64 (12 : Nat), .int .i64 a, .string ⟨#[]⟩]]) (results_scan rfl rfl (setRow_row HA.out.row)) rfl ?_
      exact scan_end hs HA.out (one_open HK.out) _ (below_setRow HA.out.below (Nat.le_refl _) _)
    | true =>
      by_cases haz : a = s.size
      · subst haz
        go_wp2_with (first | ((with_reducible refine (skip_is s i hi HS.out _ _ _ HK.out).mono ?_); rintro e w' ⟨rfl, rfl⟩) | (refine wpList_store_row rfl 26 _ _ rfl w.heap.size #[.int .i64 0, .int .i64 0, .string ⟨#[]⟩] rfl rfl 26 bad0 HA.out.row (badI _ _) rfl (one3 _ _) ?_))
        try rw [Exit.noGoto_ret]
        refine bodyPost_ret (v := .tuple #[.slice A acc.length c, .agg #[.int .i64 (0 : Nat), .int .i64 (0 : Nat), .string ⟨#[]⟩]]) (results_scan rfl rfl (setRow_row HA.out.row)) rfl ?_
        exact scan_done hs HA.out (one_fin HK.out)
      · have hat : a < s.size := by omega
        have hne : ((a : Int) == (s.size : Int)) = false := by simp; omega
        by_cases hful : acc.length = 16384
        · have hful2 : ((acc.length : Int) == 16384) = true := by simp; omega
          have HF := Lib.hid hful
          clear hful
          go_wp2_with (first | ((with_reducible refine (skip_is s i hi HS.out _ _ _ HK.out).mono ?_); rintro e w' ⟨rfl, rfl⟩) | (refine wpList_store_row rfl 26 _ _ rfl w.heap.size #[.int .i64 4, .int .i64 a, .string ⟨#[]⟩] rfl rfl 26 bad0 HA.out.row (badI _ _) rfl (one3 _ _) ?_))
          try rw [Exit.noGoto_ret]
          refine bodyPost_ret (v := .tuple #[.slice none 0 0, .agg #[.int .i64 (4 : Nat), .int .i64 a, .string ⟨#[]⟩]]) (results_scan rfl rfl (setRow_row HA.out.row)) rfl ?_
          exact scan_end hs HA.out (one_many HK.out haz HF.out) _ (below_setRow HA.out.below (Nat.le_refl _) _)
        · have hful2 : ((acc.length : Int) == 16384) = false := by simp; omega
          have hlt := tokEnd_le hat
          have hge := tokEnd_ge (s := s) (i := a)
          obtain ⟨x, hx⟩ : ∃ x, tokEnd s a = x := ⟨_, rfl⟩
          rw [hx] at hlt hge
          have HX := Lib.hid hx
          have HF := Lib.hid hful
          clear hx
          obtain ⟨gn, hgn⟩ : ∃ gn, neg acc = gn := ⟨_, rfl⟩
          have HG := Lib.hid hgn
          clear hgn
          go_upto_region 14 with (first | ((with_reducible refine (skip_is s i hi HS.out _ _ _ HK.out).mono ?_); rintro e w' ⟨rfl, rfl⟩) | (go_at_call 26; refine (end_is s a _ hat HS.out _ hTr.out hstr x HX.out).mono ?_; rintro e w' ⟨rfl, rfl⟩))
          go_cut [9] from 42 to 54 (fun z wc => z = .bool gn ∧ wr = wc)
          case first =>
            by_cases hac : 0 < acc.length
            · obtain ⟨m, hm⟩ : ∃ m, acc.length = m + 1 := ⟨acc.length - 1, by omega⟩
              obtain ⟨g, rfl, tl, htl, hcell⟩ := last_cell HA.out.own hm
              obtain ⟨y, hy⟩ : ∃ y, tl.text = y := ⟨_, rfl⟩
              rw [hy] at hcell
              have HY := Lib.hid (neg_last hm htl hy)
              rw [show m = acc.length - 1 by omega] at hcell
              have hm1 : ((acc.length : Int) - 1).toNat = acc.length - 1 := by omega
              have hm2 : 0 ≤ (acc.length : Int) - 1 := by omega
              clear hm htl hy
              go_wp2
              go_meet
              case rel => exact ⟨by rw [← HG.out, HY.out], rfl⟩
            · have HY : Hid (neg acc = false) := Lib.hid (by rw [List.eq_nil_of_length_eq_zero (by omega : acc.length = 0)]; rfl)
              go_wp2
              go_meet
              case rel => exact ⟨by rw [← HG.out, HY.out], rfl⟩
          case rest =>
            obtain ⟨rfl, rfl⟩ := hcut
            have htd : kindM (s.extract a x) = 1 → ∀ k, k < (s.extract a x).size → dg (bt (s.extract a x) k) = true := by rw [← HX.out]; exact tok_digits hat
            have HD := Lib.hid htd
            have HZ : Hid ((s.extract a x).size ≤ maxLen) := Lib.hid (by rw [ext_size hlt]; have := HS.out; omega)
            clear htd
            go_wp2_with fail
            refine (tokenOf_any (s.extract a x) gn HZ.out HD.out _ hTr.out).mono ?_
            rintro e w1 ⟨K, n, y, k, rfl, hk, hkn, hb1⟩
            have HB1 := Lib.hid hb1
            have HKN := Lib.hid (And.intro hk hkn)
            clear hk hkn hb1
            have hz1 : wr.heap.size ≤ w1.heap.size := HB1.out.size
            by_cases hk0 : k = 0
            · subst hk0
              obtain ⟨hke, hkv⟩ := HKN.out
              have hkv := hkv rfl
              simp only [Array.mk.injEq, List.cons.injEq, Value.int.injEq, Value.string.injEq, true_and, and_true] at hkv
              obtain ⟨rfl, rfl, rfl⟩ := hkv
              have HKE := Lib.hid hke
              clear hke HKN
              obtain ⟨kk, hkk⟩ : ∃ kk : Int, ((kindM (s.extract a x) : Nat) : Int) = kk := ⟨_, rfl⟩
              obtain ⟨nn, hnn⟩ : ∃ nn : Int, ((tokN (s.extract a x) : Nat) : Int) = nn := ⟨_, rfl⟩
              rw [hkk, hnn]
              have HN := Lib.hid (And.intro hkk hnn)
              clear hkk hnn
              have hlen : acc.length + 1 ≤ 16384 := by omega
              go_wp2_with (at_builtin; refine wpList_append_own _ rfl _ _ 23 rfl (w.heap.size + 2) 33 i0 (.agg #[.int .i64 0, .int .i64 0, .string ⟨#[]⟩, .int .i64 0]) 4 40 Tryd.underlying23 HI.out.1 HI.out.2.1 HI.out.2.2.1 HI.out.2.2.2 rfl (by decide) _ _ _ rfl (own_two HA.out HB1.out _ _) ⟨w1.heap.size + 1, 0, none⟩ 1 1 [.int .i64 kk, .int .i64 a, .string (s.extract a x), .int .i64 nn] rfl rfl ?c1 ?c2 ?c3 ?c4 ?c5 ?_)
              case c1 =>
                have h := new_cells (w1.alloc (Obj.cells #[.int .i64 kk, .int .i64 a, .string (s.extract a x), .int .i64 nn] 33)) [.int .i64 kk, .int .i64 a, .string (s.extract a x), .int .i64 nn] 33
                rw [World.size_alloc] at h
                exact h
              case c2 => simp [Value.oneCell']
              case c3 => unfold maxLen; omega
              case c4 => omega
              case c5 => simp; omega
              intro v' w2 hown2 hgrow _
              have HO := Lib.hid (And.intro hown2 hgrow)
              clear hown2 hgrow
              go_wp2
              go_roundg (s.size + 1 - x)
              case rel =>
                obtain ⟨rfl, rfl⟩ := HN.out
                exact scan_next HA.out HB1.out hat haz hlt HK.out HF.out HX.out HG.out HKE.out HO.out.1 HO.out.2 hlen
              case measure =>
                have := tokErr_pos (t := s.extract a x) (g := gn) (by have := HKE.out; omega)
                rw [ext_size hlt] at this
                omega
            · have hk1 : (k != 0) = true := by simpa using hk0
              have HK1 := Lib.hid hk0
              clear hk0
              go_wp2_with (refine wpList_store_row rfl 26 _ _ rfl w.heap.size #[.int .i64 k, .int .i64 a, .string ⟨#[]⟩] rfl rfl 26 bad0 (row_then HA.out HB1.out _) (badI _ _) rfl (one3 _ _) ?_)
              try rw [Exit.noGoto_ret]
              refine bodyPost_ret (v := .tuple #[.slice none 0 0, .agg #[.int .i64 k, .int .i64 a, .string ⟨#[]⟩]]) (results_scan rfl rfl (setRow_row (row_then HA.out HB1.out _))) rfl ?_
              exact scan_fault hs hat haz HA.out HK.out HF.out HX.out HG.out HKN.out.1 HK1.out (below_setRow (keep_two HA.out HB1.out _) (Nat.le_refl _) _)
theorem scan_any (s : ByteArray) (hsz : s.size ≤ maxLen) (w : World) (hT : Tabs w) : Calls Tryd.prog 8 #[.string s] w (ScanPost s w) := by
  by_cases hs : s.size ≤ 65536
  · exact scan_short s hs w hT
  have hl0 : (65536 : Int) < s.size := by omega
  have HM := Lib.hid (scan_long (s := s) (by omega))
  clear hT hs
  unfold maxLen at hsz
  go_enter Tryd.func8, Tryd.ntmps8
  go_wp2
  refine bodyPost_ret (v := .tuple #[.slice none 0 0, .agg #[.int .i64 4, .int .i64 0, .string ⟨#[]⟩]]) (results_scan rfl rfl (heap_new1 _ _)) rfl ?_
  exact ⟨none, 0, [], 4, 0, rfl, HM.out, ToksAt.nil, Nat.zero_le _, Nat.zero_le _, fun _ => rfl, (Below.refl _ _).alloc (Nat.le_refl _) _⟩
end Go.Proofs.YtkogfdbmgdajdaaDoor
