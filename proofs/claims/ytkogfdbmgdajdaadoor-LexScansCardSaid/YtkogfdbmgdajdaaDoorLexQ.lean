/-
  CONTRACTS OF THE REFERENCE's lexer, V: Scan.
-/
import Derived.Test.YtkogfdbmgdajdaaDoorLexP
import Derived.Test.YtkogfdbmgdajdaaDoorLexE
namespace Go.Proofs.YtkogfdbmgdajdaaDoor
open Go.ChangeShapes Go.WideShapes Go.ChangeAt Go.RowKit
set_option linter.unusedVariables false
theorem under_sy {s : ByteArray} {a : Nat} (h : bt s a = 95) : sy s a = [95] := by
  obtain ⟨h1, h2, h3⟩ := sy_spec s a
  have hl := h3 [95] (by decide) (by simp [pre, h])
  have hm : sy s a ∈ Sgs := h1.resolve_left fun h0 => by rw [h0] at hl; simp at hl
  have hu := List.all_eq_true.1 sg_under _ hm
  cases hs : sy s a with
  | nil => rw [hs] at hl; simp at hl
  | cons c t =>
    rw [hs] at hu h2
    have hc : c = 95 := by
      simp only [pre, Bool.and_eq_true, decide_eq_true_eq] at h2
      rw [h] at h2
      exact UInt8.toNat_inj.1 h2.1.symm
    subst hc
    simpa using hu
theorem one_any (s : ByteArray) (a : Nat) (g : Bool) (ha : a < s.size) (hs : s.size ≤ maxLen) (w : World) : Calls Tryd.prog 22 #[.string s, .int .i64 a, .bool g] w (OnePost s a g w) := by
  cases hd : dg (bt s a)
  · cases hl : lt (bt s a)
    · by_cases h39 : bt s a = 39 ∧ lt (bt s (a + 1)) = true
      · exact one_tyvar s a g ha hs h39.1 h39.2 w
      · refine one_sign s a g ha hs hd ?_ a _ (by unfold rrun; rw [if_neg (by simp [hl])]) rfl (.inl rfl) ?_ w
        · unfold tokEnd; rw [if_neg (by simp [hd]), if_neg (fun h => h.elim (fun h => by rw [hl] at h; cases h) h39)]
        · rintro ⟨h1, h2⟩
          unfold rrun at h2
          split at h2
          · exact h39 ⟨h1, by assumption⟩
          · omega
    · by_cases hu : (s.extract a (tokEnd s a)).data.toList = [95]
      · obtain ⟨h1, h2, h3⟩ := word_facts ha hd hl
        have hlen := congrArg List.length hu
        rw [size_toList, ext_size h3] at hlen
        have hE : tokEnd s a = a + 1 := by simp at hlen; omega
        have hb : bt s a = 95 := by
          have h4 := bt_ext (s := s) (i := a) h3 0
          rw [if_pos (by omega), Nat.add_zero] at h4
          rw [← h4, bt_in (by rw [ext_size h3]; omega)]
          have h5 : (s.extract a (tokEnd s a)) = mkS [95] := bytes_eq0 (by rw [hu]; rfl)
          simp only [h5]; rfl
        have hnx : wc (bt s (a + 1)) = false := by
          have e : tokEnd s a = rend wc s (a + 1) := by unfold tokEnd; rw [if_neg (by simp [hd]), if_pos (.inl hl)]
          have := (rend_spec (s := s) wc256 (a + 1)).2.2
          rw [← e, hE] at this
          exact this
        refine one_sign s a g ha hs hd (by rw [hE, under_sy hb]; rfl) (tokEnd s a) (a + 1) h1 ?_ (.inr ⟨h2, h3, by rw [ByteArray.toList_eq]; exact hu⟩) (by omega) w
        unfold rrun
        rw [if_neg (by have := (wc_false.1 hnx).2.1; simp [this])]
      · exact one_word s a g ha hs hl hu w
  · exact one_digit s a g ha hs hd w
theorem rskip_is (s : ByteArray) (i : Nat) (hi : i ≤ s.size) (hs : s.size ≤ maxLen) (w : World) (a : Nat) (b : Bool) (h : sk s i = (a, b)) : Calls Tryd.prog 21 #[.string s, .int .i64 i] w fun e w' => e = .returned (.tuple #[.int .i64 (a : Nat), .bool b]) ∧ w = w' := by
  have := rskip_any s i hi hs w
  rw [h] at this
  exact this
structure RAt (s : ByteArray) (w : World) (i : Nat) (acc : List Tk) (A : Option Addr) (c : Nat) (wr : World) : Prop where
  reach : Reach s i acc
  own : wr.ownsRow (w.heap.size + 1) 33 4 (.slice A acc.length c) acc.length (tkCells acc)
  row : wr.heap[w.heap.size]? = some (.cells bad0 26 (0, 0))
  size : w.heap.size + 1 ≤ wr.heap.size
  below : Below w.heap.size w wr
def RRel (s : ByteArray) (w : World) (n : Nat) (x y : Value) (wr : World) : Prop :=
  ∃ i acc A c, n = s.size + 1 - i ∧ x = .slice A acc.length c ∧ y = .int .i64 (i : Nat) ∧ acc.length ≤ 16384 ∧ RAt s w i acc A c wr
theorem r_end {s : ByteArray} {w wr : World} {i : Nat} {acc : List Tk} {A : Option Addr} {c k a : Nat} (hs : s.size ≤ 65536) (h : RAt s w i acc A c wr) (h1 : one s i acc.length (neg acc) = .bad k a) (wf : World) (hf : Below w.heap.size w wf) :
    ScanPost s w (.returned (.tuple #[.slice none 0 0, .agg #[.int .i64 (k : Nat), .int .i64 (a : Nat), .string ⟨#[]⟩]])) wf :=
  ⟨none, 0, [], k, a, rfl, scan_bad hs h.reach h1, ToksAt.nil, Nat.zero_le _, Nat.zero_le _, fun _ => rfl, hf⟩
theorem r_done {s : ByteArray} {w wr : World} {i : Nat} {acc : List Tk} {A : Option Addr} {c : Nat} (hs : s.size ≤ 65536) (h : RAt s w i acc A c wr) (h1 : one s i acc.length (neg acc) = .fin) {cs : Array Value} :
    ScanPost s w (.returned (.tuple #[.slice A acc.length c, .agg #[.int .i64 (0 : Nat), .int .i64 (0 : Nat), .string ⟨#[]⟩]])) (wr.setRow w.heap.size cs) := by
  obtain ⟨_, h2, h3, h4⟩ := toks_own h.own
  refine ⟨A, c, acc, 0, 0, rfl, scan_fin hs h.reach h1, ?_, h3, h4, fun hA => ?_, below_setRow h.below (Nat.le_refl _) _⟩
  · intro k t hk
    rcases h.own.2 with ⟨hv, h0⟩ | ⟨g, cap, cur, hv, hg, hh, _⟩
    · have := (List.getElem?_eq_some_iff.1 hk).1; omega
    · injection hv with hA
      subst hA
      obtain ⟨ad, e, hb, hc⟩ := h2 k t hk
      cases e
      refine ⟨_, rfl, by rw [size_setRow]; exact hb, fun j u hj hu => ?_⟩
      rw [← hc j u hj hu]
      unfold World.cell?
      rw [setRow_other]
      rw [block_add]; show g ≠ _; omega
  · subst hA
    rcases h.own.2 with ⟨hv, _⟩ | ⟨g, cap, cur, hv, _⟩
    · injection hv
    · injection hv with hv; cases hv
theorem r_row {s : ByteArray} {w wr w1 : World} {i : Nat} {acc : List Tk} {A : Option Addr} {c : Nat} (h : RAt s w i acc A c wr) (hb : Below wr.heap.size wr w1) (o : Obj) : (w1.alloc o).heap[w.heap.size]? = some (.cells bad0 26 (0, 0)) := by
  have h1 := h.size
  have h2 := hb.size
  rw [((Below.refl w1.heap.size w1).alloc (Nat.le_refl _) o).block _ (by omega), hb.block _ (by omega)]
  exact h.row
theorem r_keep {s : ByteArray} {w wr w1 : World} {i : Nat} {acc : List Tk} {A : Option Addr} {c : Nat} (h : RAt s w i acc A c wr) (hb : Below wr.heap.size wr w1) (o : Obj) : Below w.heap.size w (w1.alloc o) := by
  have h1 := h.size
  have h2 := hb.size
  exact (h.below.trans (hb.mono (by omega))).alloc (by omega) o
theorem r_own {s : ByteArray} {w wr w1 : World} {i : Nat} {acc : List Tk} {A : Option Addr} {c : Nat} (h : RAt s w i acc A c wr) (hb : Below wr.heap.size wr w1) (o o' : Obj) :
    ((w1.alloc o).alloc o').ownsRow (w.heap.size + 1) 33 4 (.slice A acc.length c) acc.length (tkCells acc) :=
  ((h.own.kept (row := none) ⟨hb.os, hb.tape, hb.output, hb.size, fun i hi _ => hb.block i hi⟩ (by cases (Value.slice A acc.length c).ownBlock <;> simp)).alloc o).alloc o'
theorem r_box {s : ByteArray} {w wr w1 w2 : World} {i : Nat} {acc : List Tk} {A : Option Addr} {c : Nat} {o o' : Obj} (h : RAt s w i acc A c wr) (hb : Below wr.heap.size wr w1) (hg : ((w1.alloc o).alloc o').grownBy w2 (Value.slice A acc.length c).ownBlock) : w2.heap[w1.heap.size]? = some o := by
  rw [hg.block _ (by simp; omega) ?_, ((Below.refl _ _).alloc (Nat.le_refl _) _).block _ (by simp)]
  · exact heap_new1 _ _
  · intro he
    have := (h.own.lt _ he.symm).2
    have := hb.size
    omega
theorem r_start (s : ByteArray) (w : World) : RRel s w (s.size + 1) (.slice none 0 0) (.int .i64 0) (w.alloc (.cells #[.int .i64 0, .int .i64 0, .string ⟨#[]⟩] 26)) :=
  ⟨0, [], none, 0, rfl, rfl, rfl, by simp, .start, ⟨rfl, .inl ⟨rfl, rfl⟩⟩, heap_new1 _ _, by simp, below_new _ _⟩
theorem r_next {s : ByteArray} {w wr w1 w2 : World} {i a x : Nat} {acc : List Tk} {A : Option Addr} {c : Nat} {g : Bool} {v' : Value} {o o' : Obj} {kk nn : Int} {y : ByteArray} (h : RAt s w i acc A c wr) (hb : Below wr.heap.size wr w1) (hat : a < s.size) (haz : ¬ a = s.size) (hxs : x ≤ s.size) (hsk : sk s i = (a, true))
    (hf : ¬ acc.length = 16384) (hx : tokEnd s a = x) (hg : neg acc = g) (hk : ((tokErr (s.extract a x) g : Nat) : Int) = 0) (hn : ((kindM (s.extract a x) : Nat) : Int) = kk ∧ ((tokN (s.extract a x) : Nat) : Int) = nn ∧ s.extract a x = y)
    (hown : w2.ownsRow (w.heap.size + 1) 33 4 v' (acc.length + 1) (tkCells acc ++ [.int .i64 kk, .int .i64 a, .string y, .int .i64 nn]))
    (hgr : ((w1.alloc o).alloc o').grownBy w2 (Value.slice A acc.length c).ownBlock) (hlen : acc.length + 1 ≤ 16384) : RRel s w (s.size + 1 - x) v' (.int .i64 (x : Nat)) w2 := by
  subst hx; subst hg
  obtain ⟨rfl, rfl, rfl⟩ := hn
  have hone := one_more hsk haz hf (g := neg acc) (by omega)
  obtain ⟨A', c', rfl⟩ := own_form4 hown
  have hl : acc.length + 1 = (acc ++ [tokOf (s.extract a (tokEnd s a)) a]).length := by simp
  have h1 := h.size
  have h2 := hb.size
  have hB : Below (w.heap.size + 1) wr w2 := (((hb.mono h1).alloc (by omega) o).alloc (by simp; omega) o').grown hgr (by simp; omega) (fun k hk => (h.own.lt k hk).1)
  refine ⟨tokEnd s a, acc ++ [tokOf (s.extract a (tokEnd s a)) a], A', c', rfl, by rw [hl], rfl, by simp; omega, .step h.reach hone, ?_, ?_, ?_, ?_⟩
  · rw [← hl, tkCells_snoc]; exact hown
  · rw [hB.block _ (by omega)]; exact h.row
  · have := hB.size; omega
  · exact h.below.trans (hB.mono (by omega))
theorem r_fault {s : ByteArray} {w wr wf : World} {i a x : Nat} {acc : List Tk} {A : Option Addr} {c : Nat} {g : Bool} {k : Int} (hs : s.size ≤ 65536) (haz : ¬ a = s.size) (h : RAt s w i acc A c wr) (hsk : sk s i = (a, true)) (hf : ¬ acc.length = 16384)
    (hx : tokEnd s a = x) (hg : neg acc = g) (hk : ((tokErr (s.extract a x) g : Nat) : Int) = k) (hk0 : ¬ k = 0) (hb : Below w.heap.size w wf) :
    ScanPost s w (.returned (.tuple #[.slice none 0 0, .agg #[.int .i64 k, .int .i64 (a : Nat), .string ⟨#[]⟩]])) wf := by
  subst hx; subst hg; subst hk
  exact r_end hs h (one_err hsk haz hf (by omega)) wf hb
theorem results_rscan {tmps : Array Value} {w : World} {g : Nat} {v x y : Value} (hv : tmps.getD 2 undef = v) (hp : tmps.getD 3 undef = .pointer (some ⟨g, 0, none⟩)) (hg : w.heap[g]? = some (.cells #[x, y, .string ⟨#[]⟩] 26 (0, 0))) :
    (results Tryd.f9 tmps).run Tryd.prog w = .ok (.tuple #[v, .agg #[x, y, .string ⟨#[]⟩]]) w := by
  have hp' : tmps[3]?.getD undef = .pointer (some ⟨g, 0, none⟩) := by simpa using hp
  have hv' : tmps[2]?.getD undef = v := by simpa using hv
  simp [results, Tryd.f9, hp', hv', asAddr, run_loadVar_row w g 26 26 _ _ _ hg Tryd.underlying26 rfl (badI x y)]
def OneOn (s : ByteArray) (a : Nat) (g : Bool) (x : Nat) (w : World) (e : Ending) (w' : World) : Prop :=
  ∃ (K a' n : Int) (y : ByteArray) (k : Int), e = .returned (.tuple #[.agg #[.int .i64 K, .int .i64 a', .string y, .int .i64 n], .int .i64 k]) ∧ ((tokErr (s.extract a x) g : Nat) : Int) = k ∧
    (k = 0 → (#[.int .i64 K, .int .i64 a', .string y, .int .i64 n] : Array Value) = #[.int .i64 (kindM (s.extract a x) : Nat), .int .i64 a, .string (s.extract a x), .int .i64 (tokN (s.extract a x) : Nat)]) ∧ Below w.heap.size w w'
theorem one_on (s : ByteArray) (a : Nat) (g : Bool) (ha : a < s.size) (hs : s.size ≤ maxLen) (x : Nat) (hx : tokEnd s a = x) (w : World) : Calls Tryd.prog 22 #[.string s, .int .i64 a, .bool g] w (OneOn s a g x w) := by
  subst hx; exact one_any s a g ha hs w
set_option maxRecDepth 100000 in
set_option maxHeartbeats 8000000 in
theorem rscan_short (s : ByteArray) (hs : s.size ≤ 65536) (w : World) : Calls Tryd.prog 9 #[.string s] w (ScanPost s w) := by
  obtain ⟨i0, hi, hz0, hz1, hz2⟩ := info_parts tInfo
  have HI := Lib.hid (And.intro hi (And.intro hz0 (And.intro hz1 hz2)))
  clear hi hz0 hz1 hz2
  have HS : Hid (s.size ≤ maxLen) := Lib.hid (by unfold maxLen; omega)
  have hl0 : ¬ (65536 : Int) < s.size := by omega
  go_enter Tryd.func9, Tryd.ntmps9
  go_wp2
  go_loopg [4, 5] (s.size + 1) (fun n x y wr => RRel s w n x y wr)
  case atStart => exact r_start s w
  case round =>
    obtain ⟨i, acc, A, c, rfl, rfl, rfl, hacc, hat⟩ := hrel
    have HA := Lib.hid hat
    have hi := (reach_le hat.reach).1
    have hsz := hat.size
    clear hat
    obtain ⟨a, b, hsk⟩ : ∃ a b, sk s i = (a, b) := ⟨_, _, rfl⟩
    have hr := sk_range hi
    rw [hsk] at hr
    obtain ⟨ha1, ha2, _⟩ := hr
    have HK := Lib.hid hsk
    clear hsk
    simp only at ha1 ha2
    cases b with
    | false =>
      go_wp2_with (first | ((with_reducible refine (rskip_is s i hi HS.out _ a _ HK.out).mono ?_); rintro e w' ⟨rfl, rfl⟩) | (refine wpList_store_row rfl 26 _ _ rfl w.heap.size #[.int .i64 12, .int .i64 a, .string ⟨#[]⟩] rfl rfl 26 bad0 HA.out.row (badI _ _) rfl (one3 _ _) ?_))
      try rw [Exit.noGoto_ret]
      refine bodyPost_ret (v := .tuple #[.slice none 0 0, .agg #[.int .i64 (12 : Nat), .int .i64 a, .string ⟨#[]⟩]]) (results_rscan rfl rfl (setRow_row HA.out.row)) rfl ?_
      exact r_end hs HA.out (one_open HK.out) _ (below_setRow HA.out.below (Nat.le_refl _) _)
    | true =>
      by_cases haz : a = s.size
      · subst haz
        go_wp2_with (first | ((with_reducible refine (rskip_is s i hi HS.out _ _ _ HK.out).mono ?_); rintro e w' ⟨rfl, rfl⟩) | (refine wpList_store_row rfl 26 _ _ rfl w.heap.size #[.int .i64 0, .int .i64 0, .string ⟨#[]⟩] rfl rfl 26 bad0 HA.out.row (badI _ _) rfl (one3 _ _) ?_))
        try rw [Exit.noGoto_ret]
        refine bodyPost_ret (v := .tuple #[.slice A acc.length c, .agg #[.int .i64 (0 : Nat), .int .i64 (0 : Nat), .string ⟨#[]⟩]]) (results_rscan rfl rfl (setRow_row HA.out.row)) rfl ?_
        exact r_done hs HA.out (one_fin HK.out)
      · have hat : a < s.size := by omega
        have hne : ((a : Int) == (s.size : Int)) = false := by simp; omega
        by_cases hful : acc.length = 16384
        · have hful2 : ((acc.length : Int) == 16384) = true := by simp; omega
          have HF := Lib.hid hful
          clear hful
          go_wp2_with (first | ((with_reducible refine (rskip_is s i hi HS.out _ _ _ HK.out).mono ?_); rintro e w' ⟨rfl, rfl⟩) | (refine wpList_store_row rfl 26 _ _ rfl w.heap.size #[.int .i64 4, .int .i64 a, .string ⟨#[]⟩] rfl rfl 26 bad0 HA.out.row (badI _ _) rfl (one3 _ _) ?_))
          try rw [Exit.noGoto_ret]
          refine bodyPost_ret (v := .tuple #[.slice none 0 0, .agg #[.int .i64 (4 : Nat), .int .i64 a, .string ⟨#[]⟩]]) (results_rscan rfl rfl (setRow_row HA.out.row)) rfl ?_
          exact r_end hs HA.out (one_many HK.out haz HF.out) _ (below_setRow HA.out.below (Nat.le_refl _) _)
        · have hful2 : ((acc.length : Int) == 16384) = false := by simp; omega
          have hlt := tokEnd_le hat
          obtain ⟨x, hx⟩ : ∃ x, tokEnd s a = x := ⟨_, rfl⟩
          rw [hx] at hlt
          have HX := Lib.hid hx
          have HF := Lib.hid hful
          clear hx
          by_cases hac : 0 < acc.length
          · obtain ⟨m, hm⟩ : ∃ m, acc.length = m + 1 := ⟨acc.length - 1, by omega⟩
            obtain ⟨g, rfl, tl, htl, hcell⟩ := last_cell HA.out.own hm
            obtain ⟨y0, hy0⟩ : ∃ y, tl.text = y := ⟨_, rfl⟩
            rw [hy0] at hcell
            have HG := Lib.hid (neg_last hm htl hy0)
            rw [show m = acc.length - 1 by omega] at hcell
            have hm1 : ((acc.length : Int) - 1).toNat = acc.length - 1 := by omega
            have hm2 : 0 ≤ (acc.length : Int) - 1 := by omega
            clear hm htl hy0
            go_wp2_with (first | ((with_reducible refine (rskip_is s i hi HS.out _ _ _ HK.out).mono ?_); rintro e w' ⟨rfl, rfl⟩))
            refine (one_on s a ((y0.toList == [126])) hat HS.out x HX.out _).mono ?_
            rintro e w1 ⟨K, a', n, y, k, rfl, hk, hkn, hb1⟩
            have HB1 := Lib.hid hb1
            have HKN := Lib.hid (And.intro hk hkn)
            clear hk hkn hb1
            have hz1 : wr.heap.size ≤ w1.heap.size := HB1.out.size
            by_cases hk0 : k = 0
            · subst hk0
              obtain ⟨hke, hkv⟩ := HKN.out
              have hkv := hkv rfl
              simp only [Array.mk.injEq, List.cons.injEq, Value.int.injEq, Value.string.injEq, true_and, and_true] at hkv
              obtain ⟨rfl, rfl, rfl, rfl⟩ := hkv
              have hyz := ext_size (s := s) (i := a) hlt
              have hpos := tokErr_pos (t := s.extract a x) (g := (y0.toList == [126])) (by omega)
              rw [hyz] at hpos
              have HKE := Lib.hid hke
              clear hke HKN
              obtain ⟨kk, hkk⟩ : ∃ kk : Int, ((kindM (s.extract a x) : Nat) : Int) = kk := ⟨_, rfl⟩
              obtain ⟨nn, hnn⟩ : ∃ nn : Int, ((tokN (s.extract a x) : Nat) : Int) = nn := ⟨_, rfl⟩
              obtain ⟨yy, hyy⟩ : ∃ yy, s.extract a x = yy := ⟨_, rfl⟩
              have HN := Lib.hid (And.intro hkk (And.intro hnn hyy))
              rw [hkk, hnn, hyy]
              rw [hyy] at hyz
              have hyl : a + yy.size ≤ 65536 := by omega
              have HYX : Hid (a + yy.size = x) := Lib.hid (by omega)
              clear hkk hnn hyy hyz
              have hlen : acc.length + 1 ≤ 16384 := by omega
              go_wp2_with (at_builtin; refine wpList_append_own _ rfl _ _ 23 rfl (w.heap.size + 1) 33 i0 (.agg #[.int .i64 0, .int .i64 0, .string ⟨#[]⟩, .int .i64 0]) 4 40 Tryd.underlying23 HI.out.1 HI.out.2.1 HI.out.2.2.1 HI.out.2.2.2 rfl (by decide) _ _ _ rfl (r_own HA.out HB1.out _ _) ⟨w1.heap.size + 1, 0, none⟩ 1 1 [.int .i64 kk, .int .i64 a, .string yy, .int .i64 nn] rfl rfl ?c1 ?c2 ?c3 ?c4 ?c5 ?_)
              case c1 =>
                have h := new_cells (w1.alloc (Obj.cells #[.int .i64 kk, .int .i64 a, .string yy, .int .i64 nn] 33)) [.int .i64 kk, .int .i64 a, .string yy, .int .i64 nn] 33
                rw [World.size_alloc] at h
                exact h
              case c2 => simp [Value.oneCell']
              case c3 => unfold maxLen; omega
              case c4 => omega
              case c5 => simp; omega
              intro v' w2 hown2 hgrow _
              have HO := Lib.hid (And.intro hown2 hgrow)
              have hbox := r_box HA.out HB1.out hgrow
              have d2 : w2.cell? ⟨w1.heap.size, 2, none⟩ = some (.string yy) := by rw [Lib.cell_of_heap hbox]; rfl
              clear hown2 hgrow hbox
              go_wp2
              go_roundg (s.size + 1 - x)
              case rel =>
                rw [show ((a : Int) + (yy.size : Nat)) = ((x : Nat) : Int) by have := HYX.out; omega]
                exact r_next HA.out HB1.out hat haz hlt HK.out HF.out HX.out HG.out HKE.out HN.out HO.out.1 HO.out.2 hlen
              case measure =>
                omega
            · have hk1 : (k != 0) = true := by simpa using hk0
              have HK1 := Lib.hid hk0
              clear hk0
              go_wp2_with (refine wpList_store_row rfl 26 _ _ rfl w.heap.size #[.int .i64 k, .int .i64 a, .string ⟨#[]⟩] rfl rfl 26 bad0 (r_row HA.out HB1.out _) (badI _ _) rfl (one3 _ _) ?_)
              try rw [Exit.noGoto_ret]
              refine bodyPost_ret (v := .tuple #[.slice none 0 0, .agg #[.int .i64 k, .int .i64 a, .string ⟨#[]⟩]]) (results_rscan rfl rfl (setRow_row (r_row HA.out HB1.out _))) rfl ?_
              exact r_fault hs haz HA.out HK.out HF.out HX.out HG.out HKN.out.1 HK1.out (below_setRow (r_keep HA.out HB1.out _) (Nat.le_refl _) _)
          · have HG : Hid (neg acc = false) := Lib.hid (by rw [List.eq_nil_of_length_eq_zero (by omega : acc.length = 0)]; rfl)
            go_wp2_with (first | ((with_reducible refine (rskip_is s i hi HS.out _ _ _ HK.out).mono ?_); rintro e w' ⟨rfl, rfl⟩))
            refine (one_on s a (false) hat HS.out x HX.out _).mono ?_
            rintro e w1 ⟨K, a', n, y, k, rfl, hk, hkn, hb1⟩
            have HB1 := Lib.hid hb1
            have HKN := Lib.hid (And.intro hk hkn)
            clear hk hkn hb1
            have hz1 : wr.heap.size ≤ w1.heap.size := HB1.out.size
            by_cases hk0 : k = 0
            · subst hk0
              obtain ⟨hke, hkv⟩ := HKN.out
              have hkv := hkv rfl
              simp only [Array.mk.injEq, List.cons.injEq, Value.int.injEq, Value.string.injEq, true_and, and_true] at hkv
              obtain ⟨rfl, rfl, rfl, rfl⟩ := hkv
              have hyz := ext_size (s := s) (i := a) hlt
              have hpos := tokErr_pos (t := s.extract a x) (g := false) (by omega)
              rw [hyz] at hpos
              have HKE := Lib.hid hke
              clear hke HKN
              obtain ⟨kk, hkk⟩ : ∃ kk : Int, ((kindM (s.extract a x) : Nat) : Int) = kk := ⟨_, rfl⟩
              obtain ⟨nn, hnn⟩ : ∃ nn : Int, ((tokN (s.extract a x) : Nat) : Int) = nn := ⟨_, rfl⟩
              obtain ⟨yy, hyy⟩ : ∃ yy, s.extract a x = yy := ⟨_, rfl⟩
              have HN := Lib.hid (And.intro hkk (And.intro hnn hyy))
              rw [hkk, hnn, hyy]
              rw [hyy] at hyz
              have hyl : a + yy.size ≤ 65536 := by omega
              have HYX : Hid (a + yy.size = x) := Lib.hid (by omega)
              clear hkk hnn hyy hyz
              have hlen : acc.length + 1 ≤ 16384 := by omega
              go_wp2_with (at_builtin; refine wpList_append_own _ rfl _ _ 23 rfl (w.heap.size + 1) 33 i0 (.agg #[.int .i64 0, .int .i64 0, .string ⟨#[]⟩, .int .i64 0]) 4 40 Tryd.underlying23 HI.out.1 HI.out.2.1 HI.out.2.2.1 HI.out.2.2.2 rfl (by decide) _ _ _ rfl (r_own HA.out HB1.out _ _) ⟨w1.heap.size + 1, 0, none⟩ 1 1 [.int .i64 kk, .int .i64 a, .string yy, .int .i64 nn] rfl rfl ?c1 ?c2 ?c3 ?c4 ?c5 ?_)
              case c1 =>
                have h := new_cells (w1.alloc (Obj.cells #[.int .i64 kk, .int .i64 a, .string yy, .int .i64 nn] 33)) [.int .i64 kk, .int .i64 a, .string yy, .int .i64 nn] 33
                rw [World.size_alloc] at h
                exact h
              case c2 => simp [Value.oneCell']
              case c3 => unfold maxLen; omega
              case c4 => omega
              case c5 => simp; omega
              intro v' w2 hown2 hgrow _
              have HO := Lib.hid (And.intro hown2 hgrow)
              have hbox := r_box HA.out HB1.out hgrow
              have d2 : w2.cell? ⟨w1.heap.size, 2, none⟩ = some (.string yy) := by rw [Lib.cell_of_heap hbox]; rfl
              clear hown2 hgrow hbox
              go_wp2
              go_roundg (s.size + 1 - x)
              case rel =>
                rw [show ((a : Int) + (yy.size : Nat)) = ((x : Nat) : Int) by have := HYX.out; omega]
                exact r_next HA.out HB1.out hat haz hlt HK.out HF.out HX.out HG.out HKE.out HN.out HO.out.1 HO.out.2 hlen
              case measure =>
                omega
            · have hk1 : (k != 0) = true := by simpa using hk0
              have HK1 := Lib.hid hk0
              clear hk0
              go_wp2_with (refine wpList_store_row rfl 26 _ _ rfl w.heap.size #[.int .i64 k, .int .i64 a, .string ⟨#[]⟩] rfl rfl 26 bad0 (r_row HA.out HB1.out _) (badI _ _) rfl (one3 _ _) ?_)
              try rw [Exit.noGoto_ret]
              refine bodyPost_ret (v := .tuple #[.slice none 0 0, .agg #[.int .i64 k, .int .i64 a, .string ⟨#[]⟩]]) (results_rscan rfl rfl (setRow_row (r_row HA.out HB1.out _))) rfl ?_
              exact r_fault hs haz HA.out HK.out HF.out HX.out HG.out HKN.out.1 HK1.out (below_setRow (r_keep HA.out HB1.out _) (Nat.le_refl _) _)
theorem rscan_any (s : ByteArray) (hsz : s.size ≤ maxLen) (w : World) : Calls Tryd.prog 9 #[.string s] w (ScanPost s w) := by
  by_cases hs : s.size ≤ 65536
  · exact rscan_short s hs w
  have hl0 : (65536 : Int) < s.size := by omega
  have HM := Lib.hid (scan_long (s := s) (by omega))
  clear hs
  unfold maxLen at hsz
  go_enter Tryd.func9, Tryd.ntmps9
  go_wp2
  refine bodyPost_ret (v := .tuple #[.slice none 0 0, .agg #[.int .i64 4, .int .i64 0, .string ⟨#[]⟩]]) (results_rscan rfl rfl (heap_new1 _ _)) rfl ?_
  exact ⟨none, 0, [], 4, 0, rfl, HM.out, ToksAt.nil, Nat.zero_le _, Nat.zero_le _, fun _ => rfl, (Below.refl _ _).alloc (Nat.le_refl _) _⟩
end Go.Proofs.YtkogfdbmgdajdaaDoor
