import Derived.Test.YtoopopjcojphaaaGreatDoorQG
import Derived.Test.YtoopopjcojphaaaGreatDoorQN
import Derived.Test.YtoopopjcojphaaaGreatDoorQD
import Derived.Laws.EntriesVeiled
import Derived.Test.YtoopopjcojphaaaGreatDoorQK
import Derived.Test.YtoopopjcojphaaaGreatDoorQL
import Derived.Test.YtoopopjcojphaaaGreatDoorQM
/-
  show's isRight OF A TYPE THAT IS RIGHT: isLow, fits, isRight.
-/
namespace Go.Proofs.YtoopopjcojphaaaGreatDoor
open Go.ChangeShapes Go.WideShapes Go.ChangeAt Go.RowKit
set_option linter.unusedVariables false
set_option maxRecDepth 100000 in
set_option maxHeartbeats 2000000 in
theorem isLow_yes {w : World} {s : ByteArray} (h : lowB s = true) (hT : Lx.Tabs w) : Calls Tryz.prog 87 #[.string s] w fun e w' => e = .returned (.bool true) ∧ Below w.heap.size w w' := by
  have hs : s.size ≤ 32 := (low_parts h).2.1
  have HC : Hid (Calls Tryz.prog 101 #[.string s] w fun e w' => ∃ ad c, e = .returned (.tuple #[.slice (some ad) 1 c, .agg #[.int .i64 0, .int .i64 0, .string ⟨#[]⟩]]) ∧ w'.cell? ad = some (.int .i64 2) ∧ w'.cell? ⟨ad.block, ad.off + 2, none⟩ = some (.string s) ∧ ad.block < w'.heap.size ∧ Below w.heap.size w w') := Lib.hid (by
    refine (Lx.scan_any s (by unfold maxLen; omega) w hT).mono ?_
    rintro e w' ⟨A, c, l, k, a, rfl, hm, ht, _, _, _, hb⟩
    rw [low_scan h] at hm
    obtain ⟨rfl, rfl, rfl⟩ : (0 : Nat) = k ∧ (0 : Nat) = a ∧ ([⟨2, 0, s, 0⟩] : List Lx.Tk) = l := by simpa using hm
    obtain ⟨ad, rfl, hbl, hc⟩ := ht 0 ⟨2, 0, s, 0⟩ rfl
    exact ⟨ad, c, rfl, by simpa [Addr.add] using hc 0 _ (by omega) rfl, by simpa [Addr.add] using hc 2 _ (by omega) rfl, hbl, hb⟩)
  clear h hT
  have hss : (s.toList == s.toList) = true := by simp
  go_enter Tryz.func87, Tryz.ntmps87
  go_wp2_with fail
  refine HC.out.mono ?_
  rintro e w1 ⟨ad, c, rfl, c0, c2, hbl, hb⟩
  have HB := Lib.hid hb
  clear hb
  obtain ⟨b, o, v⟩ := ad
  go_wp2
  go_ret
  exact ⟨rfl, below_then HB.out (below_new _ _)⟩
/-- A node that show's isRight takes. -/
def smallV (t : Tt) : Prop := t.kind = 1 → t.num ≤ 1000
set_option maxRecDepth 100000 in
set_option maxHeartbeats 4000000 in
theorem sfits_yes (t : Tt) (A : Option Addr) (c b o : Nat) (w : World) (hN : Node w b o t A c) (hl : t.args.length ≤ 1048576) (hg : goodB t = true) (hv : smallV t) (hT : Lx.Tabs w) :
    Calls Tryz.prog 76 #[.pointer (some ⟨b, o, none⟩)] w fun e w' => e = .returned (.bool true) ∧ Below w.heap.size w w' := by
  obtain ⟨k, n, s, l⟩ := t
  obtain ⟨c0, c1, c2, c3⟩ := hN
  simp only [Tt.kind, Tt.num, Tt.name, Tt.args, smallV] at c0 c1 c2 c3 hl hv
  have HT := Lib.hid hT
  clear hT
  by_cases hk : k = 1
  case pos =>
    obtain ⟨h0, hs, hl0⟩ := good_var hg hk
    have h1 := hv hk
    subst hs
    subst hl0
    have q1 : (k == 1) = true := by simpa using hk
    clear hk hv hg
    simp only [List.length_nil] at c3
    go_enter Tryz.func76, Tryz.ntmps76
    go_wp2
    go_ret
    exact ⟨rfl, Below.refl _ _⟩
  have q1 : (k == 1) = false := by simpa using hk
  have hgc : (if k = 1 then decide (0 ≤ n) && decide (s = ⟨#[]⟩) && decide (l.length = 0)
  else if k ≠ 2 ∨ n ≠ 0 then false
  else if s ≠ ⟨#[114, 101, 102]⟩ ∧ s ≠ ⟨#[45, 62]⟩ ∧ s ≠ ⟨#[42]⟩ ∧ lowB s = false then false
  else decide ((argsB s).1 ≤ l.length) && decide ((l.length : Int) ≤ (argsB s).2)) = true := hg
  rw [if_neg hk] at hgc
  by_cases h2 : k ≠ 2 ∨ n ≠ 0
  · rw [if_pos h2] at hgc; cases hgc
  rw [if_neg h2] at hgc
  obtain ⟨rfl, rfl⟩ : k = 2 ∧ n = 0 := by omega
  by_cases h3 : s ≠ ⟨#[114, 101, 102]⟩ ∧ s ≠ ⟨#[45, 62]⟩ ∧ s ≠ ⟨#[42]⟩ ∧ lowB s = false
  · rw [if_pos h3] at hgc; cases hgc
  rw [if_neg h3, Bool.and_eq_true, decide_eq_true_eq, decide_eq_true_eq] at hgc
  obtain ⟨hlo, hhi⟩ := hgc
  clear hg hv h2 q1 hk
  by_cases a1 : s = ⟨#[105, 110, 116]⟩
  case pos =>
    have q := str_yes a1
    have ha : argsB s = (0, 0) := by rw [a1]; rfl
    rw [ha] at hlo hhi
    clear a1 ha h3
    obtain hll : l.length = 0 := by simp only at hlo hhi; omega
    rw [hll] at c3
    go_enter Tryz.func76, Tryz.ntmps76
    go_wp2
    go_ret
    exact ⟨rfl, Below.refl _ _⟩
  have a1' := str_no a1
  by_cases a2 : s = ⟨#[98, 111, 111, 108]⟩
  case pos =>
    have q := str_yes a2
    have ha : argsB s = (0, 0) := by rw [a2]; rfl
    rw [ha] at hlo hhi
    clear a2 ha h3 a1
    obtain hll : l.length = 0 := by simp only at hlo hhi; omega
    rw [hll] at c3
    go_enter Tryz.func76, Tryz.ntmps76
    go_wp2
    go_ret
    exact ⟨rfl, Below.refl _ _⟩
  have a2' := str_no a2
  by_cases a3 : s = ⟨#[117, 110, 105, 116]⟩
  case pos =>
    have q := str_yes a3
    have ha : argsB s = (0, 0) := by rw [a3]; rfl
    rw [ha] at hlo hhi
    clear a3 ha h3 a1 a2
    obtain hll : l.length = 0 := by simp only at hlo hhi; omega
    rw [hll] at c3
    go_enter Tryz.func76, Tryz.ntmps76
    go_wp2
    go_ret
    exact ⟨rfl, Below.refl _ _⟩
  have a3' := str_no a3
  by_cases a4 : s = ⟨#[101, 120, 110]⟩
  case pos =>
    have q := str_yes a4
    have ha : argsB s = (0, 0) := by rw [a4]; rfl
    rw [ha] at hlo hhi
    clear a4 ha h3 a1 a2 a3
    obtain hll : l.length = 0 := by simp only at hlo hhi; omega
    rw [hll] at c3
    go_enter Tryz.func76, Tryz.ntmps76
    go_wp2
    go_ret
    exact ⟨rfl, Below.refl _ _⟩
  have a4' := str_no a4
  by_cases a5 : s = ⟨#[114, 101, 102]⟩
  case pos =>
    have q := str_yes a5
    have ha : argsB s = (1, 1) := by rw [a5]; rfl
    rw [ha] at hlo hhi
    clear a5 ha h3 a1 a2 a3 a4
    obtain hll : l.length = 1 := by simp only at hlo hhi; omega
    rw [hll] at c3
    go_enter Tryz.func76, Tryz.ntmps76
    go_wp2
    go_ret
    exact ⟨rfl, Below.refl _ _⟩
  have a5' := str_no a5
  by_cases a6 : s = ⟨#[45, 62]⟩
  case pos =>
    have q := str_yes a6
    have ha : argsB s = (2, 2) := by rw [a6]; rfl
    rw [ha] at hlo hhi
    clear a6 ha h3 a1 a2 a3 a4 a5
    obtain hll : l.length = 2 := by simp only at hlo hhi; omega
    rw [hll] at c3
    go_enter Tryz.func76, Tryz.ntmps76
    go_wp2
    go_ret
    exact ⟨rfl, Below.refl _ _⟩
  have a6' := str_no a6
  by_cases a7 : s = ⟨#[42]⟩
  case pos =>
    have q := str_yes a7
    have ha : argsB s = (2, 8) := by rw [a7]; rfl
    rw [ha] at hlo hhi
    clear a7 ha h3 a1 a2 a3 a4 a5 a6
    have hl2 : (2 : Int) ≤ l.length := hlo
    have hl8 : (l.length : Int) ≤ 8 := hhi
    go_enter Tryz.func76, Tryz.ntmps76
    go_wp2
    go_ret
    exact ⟨rfl, Below.refl _ _⟩
  have a7' := str_no a7
  have hlow : lowB s = true := by
    cases h : lowB s with
    | true => rfl
    | false => exact absurd ⟨a5, a6, a7, h⟩ h3
  have ha : argsB s = (0, 8) := by unfold argsB; rw [if_neg (by simp [a1, a2, a3, a4]), if_neg a5, if_neg a6, if_neg a7]
  rw [ha] at hhi
  have hl8 : (l.length : Int) ≤ 8 := hhi
  have HC := Lib.hid (isLow_yes hlow HT.out)
  clear hlow ha hhi hlo h3 a1 a2 a3 a4 a5 a6 a7
  go_enter Tryz.func76, Tryz.ntmps76
  go_wp2_with (go_at_call 87; refine HC.out.mono ?_; rintro e w1 ⟨rfl, hb1⟩; have HB1 := Lib.hid hb1; clear hb1)
  go_ret
  exact ⟨rfl, HB1.out⟩
end Go.Proofs.YtoopopjcojphaaaGreatDoor
/-
  show's isRight OF A TYPE THAT IS RIGHT, II: the closure, isRight.
-/
namespace Go.Proofs.YtoopopjcojphaaaGreatDoor
open Go.ChangeShapes Go.WideShapes Go.ChangeAt Go.RowKit
set_option linter.unusedVariables false
def rtF (C : Nat) : Value := .func (.func 75) #[] #[.pointer (some ⟨C, 0, none⟩), .pointer (some ⟨C + 1, 0, none⟩)]
/-- The counter and the closure of isRight: the call made them. -/
def RtAt (w0 : World) (n : Nat) (w : World) : Prop := Below w0.heap.size w0 w ∧ w.heap[w0.heap.size]? = some (.cells #[.int .i64 n] 3 (0, 0)) ∧ w.heap[w0.heap.size + 1]? = some (.cells #[rtF w0.heap.size] 70 (0, 0))
theorem RtAt.size {w0 w : World} {n : Nat} (h : RtAt w0 n w) : w0.heap.size + 1 < w.heap.size := (Array.getElem?_eq_some_iff.1 h.2.2).1
theorem RtAt.set {w0 w : World} {n : Nat} (h : RtAt w0 n w) (m : Nat) : RtAt w0 m (w.setCell ⟨w0.heap.size, 0, none⟩ (.int .i64 m)) := by
  refine ⟨⟨h.1.os, h.1.tape, h.1.output, by simpa using h.1.size, fun k hk => ?_⟩, ?_, ?_⟩
  · rw [heap_setCell_other w _ _ _ (by simp; omega)]; exact h.1.block k hk
  · rw [heap_setCell_same w _ 0 _ _ _ h.2.1]; rfl
  · rw [heap_setCell_other w _ _ _ (by simp)]; exact h.2.2
theorem RtAt.below {w0 w w' : World} {n : Nat} (h : RtAt w0 n w) (hb : Below w.heap.size w w') : RtAt w0 n w' := ⟨below_then h.1 hb, (hb.block _ (by have := h.size; omega)).trans h.2.1, (hb.block _ h.size).trans h.2.2⟩
set_option maxRecDepth 100000 in
set_option maxHeartbeats 4000000 in
theorem right1_yes (w0 : World) (S : Nat → Prop) (hS : ∀ b, S b → b < w0.heap.size) (hT : Lx.Tabs w0) : ∀ (m : Nat) (t : Tt) (n d b o : Nat) (w : World), (pre t).length ≤ m → formedT t = true → (∀ u ∈ pre t, smallV u) → n + (pre t).length ≤ 256 → RtAt w0 n w → TyP w0 S d t b o →
    Calls Tryz.prog 75 #[.pointer (some ⟨b, o, none⟩), .pointer (some ⟨w0.heap.size, 0, none⟩), .pointer (some ⟨w0.heap.size + 1, 0, none⟩)] w fun e w' => e = .returned (.bool true) ∧ RtAt w0 (n + (pre t).length) w' := by
  intro m
  induction m with
  | zero => intro t _ _ _ _ _ hle; obtain ⟨k, n, s, l⟩ := t; simp [pre] at hle
  | succ m ih =>
    intro t n d b o w hle hf hv hn hR hP
    have hne : (pre t).length = 1 + (preL t.args).length := by cases t; simp [pre, Tt.args]; omega
    obtain ⟨A, c, d', rfl, hN, hnn, hlen, hnm, hSb, hkids⟩ := hP.node
    have hz := hR.size
    have HR := Lib.hid hR
    have c1 := cell_one hR.2.1
    have c2 := frozen_of_row w w0.heap.size 0 _ _ hR.2.1
    have hbl := hS b hSb
    have hset := hR.set (n + 1)
    have HF : Hid (Calls Tryz.prog 76 #[.pointer (some ⟨b, o, none⟩)] (w.setCell ⟨w0.heap.size, 0, none⟩ (.int .i64 ((n + 1 : Nat) : Int))) fun e w' => e = .returned (.bool true) ∧ Below w.heap.size (w.setCell ⟨w0.heap.size, 0, none⟩ (.int .i64 ((n + 1 : Nat) : Int))) w') := Lib.hid (by
      have hg : goodB t = true := by obtain ⟨k, n, s, l⟩ := t; exact (formed_node hf).1
      have hs : Same S w0 (w.setCell ⟨w0.heap.size, 0, none⟩ (.int .i64 ((n + 1 : Nat) : Int))) := Same.of_below hset.1 hS
      have := sfits_yes t A c b o _ (hN.keep hs hSb) hlen hg (hv t (by cases t; rw [pre]; exact List.mem_cons_self ..)) (hT.on hset.1)
      rwa [World.size_setCell] at this)
    have q : ((n : Int) + 1 ≤ 256) := by omega
    have HSET := Lib.hid hset
    have HN := Lib.hid hN
    have HK : Hid (∀ i (hi : i < t.args.length), ∃ b' o', A = some ⟨b', o', none⟩ ∧ ∀ W n', RtAt w0 n' W → n' + (pre t.args[i]).length ≤ 256 → Calls Tryz.prog 75 #[.pointer (some ⟨b', o' + i * 4, none⟩), .pointer (some ⟨w0.heap.size, 0, none⟩), .pointer (some ⟨w0.heap.size + 1, 0, none⟩)] W fun e w' => e = .returned (.bool true) ∧ RtAt w0 (n' + (pre t.args[i]).length) w') := Lib.hid fun i hi => by
      obtain ⟨b', o', e, hp⟩ := hkids i hi
      refine ⟨b', o', e, fun W n' hW hn' => ih t.args[i] n' d' b' (o' + i * 4) W ?_ ?_ ?_ hn' hW hp⟩
      · have := preL_len_le hi; omega
      · obtain ⟨k, n, s, l⟩ := t; exact (formed_node hf).2 _ (List.getElem_mem _)
      · intro u hu
        refine hv u ?_
        obtain ⟨k, n, s, l⟩ := t
        rw [pre]
        refine List.mem_cons_of_mem _ ?_
        exact mem_preL (List.getElem_mem _) hu
    have HS := Lib.hid hS
    clear ih hf hv hT hkids hset hN hP hR
    go_enter Tryz.func75, Tryz.ntmps75
    go_wp2_with (go_at_call 76; refine HF.out.mono ?_; rintro e w1 ⟨rfl, hb1⟩; have HR1 := Lib.hid (HSET.out.below (by rw [World.size_setCell]; exact hb1)); have q3 := (HN.out.keep (Same.of_below HR1.out.1 HS.out) hSb).2.2.2; clear hb1)
    clear HF HSET c1 c2 hz q
    go_loopw [20] (fun z wr => ∃ k : Nat, k ≤ t.args.length ∧ z = .int .i64 k ∧ RtAt w0 (n + 1 + (preL (t.args.take k)).length) wr) (fun z _ => t.args.length - (intOf z).toNat)
    case atStart => exact ⟨0, Nat.zero_le _, rfl, by simpa [preL] using HR1.out⟩
    case round =>
      obtain ⟨k, hk, rfl, hrel⟩ := hrel
      have HJ := Lib.hid hrel
      have q3' := (HN.out.keep (Same.of_below hrel.1 HS.out) hSb).2.2.2
      clear hrel q3
      by_cases hlt : k < t.args.length
      · obtain ⟨b', o', rfl, hc⟩ := HK.out k hlt
        have hle2 := preL_len_le hlt
        have HC := Lib.hid (hc wr.drew _ (HJ.out.below (below_drew1 (Below.refl _ _))) (by omega))
        have HX : Hid (∀ W', Below wr.heap.size wr W' → RtAt w0 (n + 1 + (preL (t.args.take k)).length) W') := Lib.hid fun W' h => HJ.out.below h
        have HY : Hid (∀ W', Below wr.heap.size wr W' → W'.cell? ⟨w0.heap.size + 1, 0, none⟩ = some (rtF w0.heap.size) ∧ W'.cell? ⟨b, o + 3, none⟩ = some (.slice (some ⟨b', o', none⟩) t.args.length c)) := Lib.hid fun W' h => ⟨cell_one (HX.out _ h).2.2, (HN.out.keep (Same.of_below (HX.out _ h).1 HS.out) hSb).2.2.2⟩
        have HZ : Hid (n + 1 + (preL (t.args.take k)).length + (pre t.args[k]).length = n + 1 + (preL (t.args.take (k + 1))).length) := Lib.hid (by rw [preL_take _ _ hlt, List.length_append]; omega)
        clear hc
        unfold rtF at HY
        go_wp2
        refine wp_region_K (fun w' => Below wr.heap.size wr w') (fun j => j != 7) (by kernel_rfl) ?_
        refine wpK_take (v := ?_) (a' := ?_) 0 rfl (by kernel_rfl) (by kernel_rfl) (by kernel_rfl) (by kernel_rfl) (by kernel_rfl) (fun _ _ _ h => h) (below_drew1 (Below.refl _ _)) ?_ ?_ ?_
        rotate_left 2
        · refine .inl ⟨by kernel_rfl, ?_⟩; intro wS hS; have q0 := (HY.out _ hS).1; have q4 := (HY.out _ hS).2; go_simp; with_reducible rfl
        · go_simp; with_reducible rfl
        refine wpK_take0 (v := ?_) (a' := ?_) 1 rfl (by kernel_rfl) (by kernel_rfl) (by kernel_rfl) (by kernel_rfl) (fun _ _ _ h => h) ?_ ?_ ?_
        rotate_left 2
        · refine .inl ⟨by kernel_rfl, ?_⟩; intro wS hS; clear hS; go_simp; with_reducible rfl
        · go_simp; with_reducible rfl
        refine wpK_take0 (v := ?_) (a' := ?_) 2 rfl (by kernel_rfl) (by kernel_rfl) (by kernel_rfl) (by kernel_rfl) (fun _ _ _ h => h) ?_ ?_ ?_
        rotate_left 2
        · refine .inl ⟨by kernel_rfl, ?_⟩; intro wS hS; clear hS; go_simp; with_reducible rfl
        · go_simp; with_reducible rfl
        refine wpK_take0 (v := ?_) (a' := ?_) 3 rfl (by kernel_rfl) (by kernel_rfl) (by kernel_rfl) (by kernel_rfl) (fun _ _ _ h => h) ?_ ?_ ?_
        rotate_left 2
        · refine .inl ⟨by kernel_rfl, ?_⟩; intro wS hS; clear hS; go_simp; with_reducible rfl
        · go_simp; with_reducible rfl
        refine wpK_take (v := ?_) (a' := ?_) 4 rfl (by kernel_rfl) (by kernel_rfl) (by kernel_rfl) (by kernel_rfl) (by kernel_rfl) (fun _ _ _ h => h) (below_drew1 (Below.refl _ _)) ?_ ?_ ?_
        rotate_left 2
        · refine .inl ⟨by kernel_rfl, ?_⟩; intro wS hS; have q0 := (HY.out _ hS).1; have q4 := (HY.out _ hS).2; go_simp; with_reducible rfl
        · go_simp; with_reducible rfl
        refine wpK_take0 (v := ?_) (a' := ?_) 5 rfl (by kernel_rfl) (by kernel_rfl) (by kernel_rfl) (by kernel_rfl) (fun _ _ _ h => h) ?_ ?_ ?_
        rotate_left 2
        · refine .inl ⟨by kernel_rfl, ?_⟩; intro wS hS; clear hS; go_simp; with_reducible rfl
        · go_simp; with_reducible rfl
        refine wpK_take0 (v := ?_) (a' := ?_) 6 rfl (by kernel_rfl) (by kernel_rfl) (by kernel_rfl) (by kernel_rfl) (fun _ _ _ h => h) ?_ ?_ ?_
        rotate_left 2
        · refine .inl ⟨by kernel_rfl, ?_⟩; intro wS hS; clear hS; go_simp; with_reducible rfl
        · go_simp; with_reducible rfl
        refine wpK_one 7 rfl (by kernel_rfl) (fun K hK => ?_)
        have HKK := Lib.hid hK
        clear hK
        go_wp2_with fail
        refine HC.out.mono ?_
        rintro e w2 ⟨rfl, h2⟩
        rw [HZ.out] at h2
        have HR2 := Lib.hid h2
        clear h2
        go_wp2
        refine HKK.out _ _ (fun h => absurd h (by decide)) ?_
        refine wpK_one 8 rfl (by kernel_rfl) (fun K hK => ?_)
        have HKK := Lib.hid hK
        clear hK
        go_wp2
        refine HKK.out _ _ (fun _ h => h) ?_
        refine wpK_end (by kernel_rfl) ?_ _
        clear HKK HX HY HC
        go_wp2
        go_roundw
        case rel => exact ⟨k + 1, by omega, by go_num, HR2.out⟩
        case measure => simp [intOf]; omega
      · obtain rfl : k = t.args.length := by omega
        rw [List.take_length] at HJ
        go_wp2
        go_ret
        refine ⟨rfl, ?_⟩
        rw [show n + (pre t).length = n + 1 + (preL t.args).length by omega]
        exact HJ.out
set_option maxRecDepth 100000 in
set_option maxHeartbeats 4000000 in
theorem isRight_yes {w : World} {t : Tt} {x : Value} (h : Val w t x) (hf : formedT t = true) (hv : ∀ u ∈ pre t, smallV u) (hn : (pre t).length ≤ 256) (hT : Lx.Tabs w) : Calls Tryz.prog 63 #[x] w fun e w' => e = .returned (.bool true) ∧ Below w.heap.size w w' := by
  obtain ⟨A, c, rfl, d, hd⟩ := h
  obtain ⟨w0, hw0⟩ : ∃ w0, w0 = w.alloc (.cells #[.int .i64 t.kind, .int .i64 t.num, .string t.name, .slice A t.args.length c] 25) := ⟨_, rfl⟩
  have hP := boxed (fun b hb => hb) hd
  rw [← hw0] at hP
  have hsz : w0.heap.size = w.heap.size + 1 := by rw [hw0]; simp
  have hb0 : Below w.heap.size w w0 := by rw [hw0]; exact below_new _ _
  have HB0 := Lib.hid hb0
  have HW := Lib.hid hw0
  obtain ⟨w1, hw1⟩ : ∃ w1, w1 = (w0.alloc (.cells #[.int .i64 0] 3)).alloc (.cells #[rtF w0.heap.size] 70) := ⟨_, rfl⟩
  have hr1 : RtAt w0 0 w1 := by
    rw [hw1]
    refine ⟨(below_new _ _).trans ((below_new _ _).mono (by simp)), ?_, ?_⟩
    · exact ((below_new _ _).block _ (by simp)).trans (heap_alloc_new _ _)
    · have := heap_alloc_new (w0.alloc (.cells #[.int .i64 0] 3)) (.cells #[rtF w0.heap.size] 70)
      simpa using this
  have HC := Lib.hid (right1_yes w0 (Lt (w.heap.size + 1)) (fun b hb => by rw [hsz]; exact hb) (hT.on hb0) _ t 0 d w.heap.size 0 w1 (Nat.le_refl _) hf hv (by omega) hr1 hP)
  have HW1 : Hid (w1 = (w0.alloc (.cells #[.int .i64 0] 3)).alloc (.cells #[.func (.func 75) #[] #[.pointer (some ⟨w0.heap.size, 0, none⟩), .pointer (some ⟨w0.heap.size + 1, 0, none⟩)]] 70)) := Lib.hid hw1
  clear hd hP hf hv hT hr1 hw0 hw1 hb0
  go_enter Tryz.func63, Tryz.ntmps63
  go_wp2_with fail
  rw [← HW.out, ← hsz, ← HW1.out]
  refine HC.out.mono ?_
  rintro e w2 ⟨rfl, h2⟩
  have HR2 := Lib.hid h2
  clear h2
  go_wp2
  go_ret
  exact ⟨rfl, HB0.out.trans (HR2.out.1.mono (by omega))⟩
end Go.Proofs.YtoopopjcojphaaaGreatDoor
/-
  show's WRITER, II: tyLevel, one token made for the call, group, list, tuple.
-/
namespace Go.Proofs.YtoopopjcojphaaaGreatDoor
open Go.ChangeShapes Go.WideShapes Go.ChangeAt Go.RowKit
set_option linter.unusedVariables false
def sp (g : Bool) : List UInt8 := if g then [] else [32]
theorem put_plain (bs : List UInt8) (g : Bool) (tok : ByteArray) (h1 : tok ≠ ⟨#[41]⟩) (h2 : tok ≠ ⟨#[44]⟩) (h3 : tok ≠ ⟨#[59]⟩) : putB bs g tok = bs ++ (sp g ++ tok.data.toList) := by
  have h1 : tok.toList ≠ [41] := fun e => h1 ((str_is _ _).1 e)
  have h2 : tok.toList ≠ [44] := fun e => h2 ((str_is _ _).1 e)
  have h3 : tok.toList ≠ [59] := fun e => h3 ((str_is _ _).1 e)
  unfold putB sp
  cases g <;> simp [h1, h2, h3]
theorem WS.alloc {B P : Nat} {w : World} {bs : List UInt8} {g : Bool} (h : WS B P w bs g) (o : Obj) : WS B P (w.alloc o) bs g := by
  obtain ⟨h1, h2, v, h3, h4, h5⟩ := h
  exact ⟨h1, by simp; omega, v, ((below_new w o).block _ (Array.getElem?_eq_some_iff.1 h3).1).trans h3, h4.alloc _, h5⟩
theorem WS.lt {B P : Nat} {w : World} {bs : List UInt8} {g : Bool} (h : WS B P w bs g) : P < w.heap.size := by
  obtain ⟨_, _, v, h3, _⟩ := h
  exact (Array.getElem?_eq_some_iff.1 h3).1
theorem wput_tok {B P : Nat} {w : World} {bs : List UInt8} {g : Bool} (h : WS B P w bs g) (hlen : bs.length ≤ 100000000) (tok : ByteArray) (ht : tok.size ≤ 1048576) :
    Calls Tryz.prog 88 #[.pointer (some ⟨P, 0, none⟩), .slice (some ⟨w.heap.size, 0, none⟩) 1 1] (w.alloc (.cells #[.string tok] 9)) (Wrote B P w (putB bs g tok) (putG' tok)) := by
  refine (wput_any (h.alloc _) hlen tok ht w.heap.size 9 (by decide) (heap_alloc_new _ _) (by have := h.lt; omega)).mono ?_
  rintro e w' ⟨h1, h2, h3, h4⟩
  exact ⟨h1, h2, ((below_new w _).mono h.2.1).trans h3, ((Lib.OthersKept.refl _ _ _).alloc _).trans h4⟩
set_option maxRecDepth 100000 in
theorem tyLevel_any {w : World} {b o c : Nat} {t : Tt} {A : Option Addr} (h : Node w b o t A c) : Calls Tryz.prog 78 #[.pointer (some ⟨b, o, none⟩)] w fun e w' => e = .returned (.int .i64 (lvN t.name : Nat)) ∧ w = w' := by
  obtain ⟨_, _, c2, _⟩ := h
  have HL : Hid (lvN t.name = if t.name = ⟨#[45, 62]⟩ then 0 else if t.name = ⟨#[42]⟩ then 1 else 2) := Lib.hid rfl
  by_cases h1 : t.name = ⟨#[45, 62]⟩
  · have q := str_yes h1
    rw [HL.out, if_pos h1]
    clear HL h1
    go_enter Tryz.func78, Tryz.ntmps78
    go_wp2
    go_ret
    exact ⟨rfl, rfl⟩
  have q := str_no h1
  by_cases h2 : t.name = ⟨#[42]⟩
  · have q := str_yes h2
    rw [HL.out, if_neg h1, if_pos h2]
    clear HL h1 h2
    go_enter Tryz.func78, Tryz.ntmps78
    go_wp2
    go_ret
    exact ⟨rfl, rfl⟩
  have q2 := str_no h2
  rw [HL.out, if_neg h1, if_neg h2]
  clear HL h1 h2
  go_enter Tryz.func78, Tryz.ntmps78
  go_wp2
  go_ret
  exact ⟨rfl, rfl⟩
/-- A part that can be written: its callee and what that has caught. -/
def Parts (B P : Nat) (w : World) (M : Nat) (F : Nat) (args : Array Value) (frag : List UInt8) : Prop := ∀ W bs g, Below B w W → KeptW P w W → WS B P W bs g → bs.length ≤ M → Calls Tryz.prog F args W (Wrote B P W (bs ++ (sp g ++ frag)) false)
def CallIs (F : Nat) : Prop := ∀ (args : Array Value) (w : World), (callFunc F args).run Tryz.prog w = .ok (.enter F args) w
set_option maxRecDepth 100000 in
set_option maxHeartbeats 4000000 in
theorem wgroup_any {F : Nat} {cap : Array Value} (hcf : CallIs F) {B P M : Nat} {w : World} {bs : List UInt8} {g : Bool} (h : WS B P w bs g) (need : Bool) (frag : List UInt8) (hM : bs.length + 2 ≤ M) (hM2 : M + frag.length ≤ 90000000) (HF : Parts B P w M F cap frag) :
    Calls Tryz.prog 77 #[.pointer (some ⟨P, 0, none⟩), .bool need, .func (.func F) #[] cap] w (Wrote B P w (bs ++ (sp g ++ wrapL need frag)) false) := by
  unfold CallIs at hcf
  have HP := Lib.hid HF
  have HW := Lib.hid h
  clear HF h
  cases need
  case false =>
    have HC := Lib.hid (HP.out w bs g (Below.refl _ _) (Lib.OthersKept.refl _ _ _) HW.out (by omega))
    clear hM hM2
    go_enter Tryz.func77, Tryz.ntmps77
    go_wp2_with fail
    refine HC.out.mono ?_
    rintro e w1 ⟨rfl, h1⟩
    have H1 := Lib.hid h1
    clear h1
    go_wp2
    go_end0
    exact ⟨rfl, H1.out⟩
  case true =>
    have HC := Lib.hid (wput_tok HW.out (by omega) ⟨#[40]⟩ (by decide))
    go_enter Tryz.func77, Tryz.ntmps77
    go_wp2_with fail
    refine HC.out.mono ?_
    rintro e w1 ⟨rfl, h1⟩
    obtain ⟨h2, h3, h4⟩ := h1
    rw [put_plain _ _ _ (by decide) (by decide) (by decide)] at h2
    have H1 := Lib.hid (And.intro h2 (And.intro h3 h4))
    have HC2 := Lib.hid (HP.out w1 _ _ h3 h4 h2 (by simp [sp]; split <;> simp <;> omega))
    clear h2 h3 h4
    go_wp2_with fail
    refine HC2.out.mono ?_
    rintro e w2 ⟨rfl, h2, h3, h4⟩
    have H2 := Lib.hid (And.intro (H1.out.2.1.trans h3) (H1.out.2.2.trans h4))
    have HC3 := Lib.hid (wput_tok h2 (by simp [sp]; split <;> split <;> simp <;> omega) ⟨#[41]⟩ (by decide))
    clear h2 h3 h4
    go_wp2_with fail
    refine HC3.out.mono ?_
    rintro e w3 ⟨rfl, h2, h3, h4⟩
    have H3 := Lib.hid (And.intro h2 (And.intro (H2.out.1.trans h3) (H2.out.2.trans h4)))
    clear h2 h3 h4
    go_wp2
    go_end0
    refine ⟨rfl, ?_, H3.out.2⟩
    have := H3.out.1
    unfold putB at this
    rw [if_pos (.inr (.inl ((str_is _ _).2 rfl)))] at this
    simpa [sp, wrapL, putG'] using this
set_option maxRecDepth 100000 in
set_option maxHeartbeats 4000000 in
theorem wlist_any {F : Nat} {cap : Array Value} (hcf : CallIs F) {B P M : Nat} {w : World} {bs : List UInt8} {g : Bool} (h : WS B P w bs g) (q : Nat) (ps : List (Nat × List UInt8)) (tok : ByteArray) (sep : List UInt8) (ht : tok.size ≤ 8) (hs : sep.length ≤ 3)
    (hsep : ∀ bs, putB bs false tok ++ [32] = bs ++ sep) (hg : putG' tok = false) (hn : ps.length ≤ 1048576) (hM : bs.length + 9 + sumL ps ≤ M) (hM2 : M ≤ 90000000)
    (HF : ∀ (j : Nat) (hj : j < ps.length), Parts B P w M F (#[.int .i64 j] ++ cap) (wrK q ps[j])) :
    Calls Tryz.prog 91 #[.pointer (some ⟨P, 0, none⟩), .int .i64 ps.length, .string tok, .func (.func F) #[] cap] w fun e w' => e = .returned (.tuple #[]) ∧ (ps ≠ [] → WS B P w' (bs ++ (sp g ++ joinW sep q ps)) false) ∧ Below B w w' ∧ KeptW P w w' := by
  unfold CallIs at hcf
  have HP := Lib.hid HF
  have HW := Lib.hid h
  have HSP := Lib.hid hsep
  have HG := Lib.hid hg
  have HJ : Hid (∀ j, (joinW sep q (ps.take j)).length ≤ sumL ps) := Lib.hid fun j => Nat.le_trans (join_len sep q hs _) (sumL_take ps j)
  have hsp : (sp g).length ≤ 1 := by unfold sp; split <;> simp
  clear HF h hsep hg
  go_enter Tryz.func91, Tryz.ntmps91
  go_wp2
  go_loopw [10] (fun z wr => ∃ j : Nat, j ≤ ps.length ∧ z = .int .i64 j ∧ Below B w wr ∧ KeptW P w wr ∧ ((j = 0 ∧ WS B P wr bs g) ∨ (0 < j ∧ WS B P wr (bs ++ (sp g ++ joinW sep q (ps.take j))) false))) (fun z _ => ps.length - (intOf z).toNat)
  case atStart => exact ⟨0, Nat.zero_le _, rfl, Below.refl _ _, Lib.OthersKept.refl _ _ _, .inl ⟨rfl, HW.out⟩⟩
  case round =>
    obtain ⟨j, hj, rfl, hb, hk, hor⟩ := hrel
    have HBK := Lib.hid (And.intro hb hk)
    by_cases hlt : j < ps.length
    · have HT := Lib.hid (join_take sep q ps hlt)
      rcases hor with ⟨rfl, hws⟩ | ⟨hj0, hws⟩
      · have HC := Lib.hid (HP.out 0 hlt wr _ _ hb hk hws (by omega))
        clear hb hk hws
        go_wp2_with fail
        refine HC.out.mono ?_
        rintro e w1 ⟨rfl, h2, h3, h4⟩
        have H1 := Lib.hid (And.intro h2 (And.intro (HBK.out.1.trans h3) (HBK.out.2.trans h4)))
        clear h2 h3 h4
        go_wp2
        go_roundw
        case rel =>
          refine ⟨1, by omega, by go_num, H1.out.2.1, H1.out.2.2, .inr ⟨by omega, ?_⟩⟩
          rw [HT.out]; simp only [if_true, List.nil_append]; exact H1.out.1
        case measure => simp [intOf]; omega
      · have HC := Lib.hid (wput_tok hws (by have := HJ.out j; simp only [List.length_append]; omega) tok (by omega))
        clear hb hk hws
        go_wp2_with fail
        refine HC.out.mono ?_
        rintro e w1 ⟨rfl, h2, h3, h4⟩
        rw [HG.out] at h2
        have hln : (putB (bs ++ (sp g ++ joinW sep q (ps.take j))) false tok).length ≤ M := by
          have h1 := HJ.out j
          have h2 := congrArg List.length (HSP.out (bs ++ (sp g ++ joinW sep q (ps.take j))))
          simp only [List.length_append, List.length_singleton] at h2 ⊢
          omega
        have HC2 := Lib.hid (HP.out j hlt w1 _ _ (HBK.out.1.trans h3) (HBK.out.2.trans h4) h2 hln)
        have H1 := Lib.hid (And.intro (HBK.out.1.trans h3) (HBK.out.2.trans h4))
        clear h2 h3 h4
        go_wp2_with fail
        refine HC2.out.mono ?_
        rintro e w2 ⟨rfl, h2, h3, h4⟩
        have H2 := Lib.hid (And.intro h2 (And.intro (H1.out.1.trans h3) (H1.out.2.trans h4)))
        clear h2 h3 h4
        go_wp2
        go_roundw
        case rel =>
          refine ⟨j + 1, by omega, by go_num, H2.out.2.1, H2.out.2.2, .inr ⟨by omega, ?_⟩⟩
          rw [HT.out, if_neg (by omega)]
          have e : putB (bs ++ (sp g ++ joinW sep q (ps.take j))) false tok ++ (sp false ++ wrK q ps[j]) = bs ++ (sp g ++ (joinW sep q (ps.take j) ++ sep ++ wrK q ps[j])) := by
            rw [show sp false = [32] from rfl, ← List.append_assoc, HSP.out]; simp
          rw [← e]; exact H2.out.1
        case measure => simp [intOf]; omega
    · obtain rfl : j = ps.length := by omega
      clear hb hk
      go_wp2
      go_end0
      refine ⟨rfl, fun hne => ?_, HBK.out⟩
      rcases hor with ⟨h0, _⟩ | ⟨_, hws⟩
      · exact absurd (List.length_eq_zero_iff.1 h0) hne
      · rwa [List.take_length] at hws
end Go.Proofs.YtoopopjcojphaaaGreatDoor
/-
  show's WRITER, III: tuple; the closures of bareTy.
-/
namespace Go.Proofs.YtoopopjcojphaaaGreatDoor
open Go.ChangeShapes Go.WideShapes Go.ChangeAt Go.RowKit
set_option linter.unusedVariables false
theorem kept_on {P : Nat} {w w' : World} (hb : Below w.heap.size w w') : KeptW P w w' := fun k o hk _ _ => (hb.block k (Array.getElem?_eq_some_iff.1 hk).1).trans hk
theorem kept_row {P k : Nat} {w w' : World} {cs : Array Value} {t : TypeId} {fr : Nat × Nat} (h : KeptW P w w') (hc : w.heap[k]? = some (.cells cs t fr)) (hk : k ≠ P) (ht : t ≠ 5) : w'.heap[k]? = some (.cells cs t fr) :=
  h k _ hc (by simpa using hk) (fun c fz e => ht (by simpa using (Obj.cells.inj e).2.1))
theorem kept_one {P k : Nat} {w w' : World} {v : Value} {t : TypeId} {fr : Nat × Nat} (h : KeptW P w w') (hc : w.heap[k]? = some (.cells #[v] t fr)) (hk : k ≠ P) (ht : t ≠ 5) : w'.cell? ⟨k, 0, none⟩ = some v := cell_one (kept_row h hc hk ht)
theorem putG_no {tok : ByteArray} (h1 : tok ≠ ⟨#[40]⟩) (h2 : tok ≠ ⟨#[126]⟩) (h3 : tok ≠ ⟨#[33]⟩) : putG' tok = false := by unfold putG'; rw [str_no h1, str_no h2, str_no h3]; rfl
theorem own_on {w w' : World} {base : Nat} {e : TypeId} {size n : Nat} {v : Value} {xs : List Value} (h : w.ownsRow base e size v n xs) (hb : Below w.heap.size w w') : w'.ownsRow base e size v n xs := by
  obtain ⟨h0, h⟩ := h
  refine ⟨h0, ?_⟩
  rcases h with h | ⟨g, cap, cur, hv, hbs, hg, hr⟩
  · exact .inl h
  · exact .inr ⟨g, cap, cur, hv, hbs, (hb.block _ (Array.getElem?_eq_some_iff.1 hg).1).trans hg, hr⟩
theorem WS.on {B P : Nat} {w w' : World} {bs : List UInt8} {g : Bool} (h : WS B P w bs g) (hb : Below w.heap.size w w') : WS B P w' bs g := by
  obtain ⟨h1, h2, v, h3, h4, h5⟩ := h
  exact ⟨h1, Nat.le_trans h2 hb.size, v, (hb.block _ (Array.getElem?_eq_some_iff.1 h3).1).trans h3, own_on h4 hb, h5⟩
theorem Parts.on {B P M F : Nat} {w W : World} {a : Array Value} {frag : List UInt8} (h : Parts B P w M F a frag) (hb : Below B w W) (hk : KeptW P w W) : Parts B P W M F a frag := fun W' bs g h1 h2 h3 h4 => h W' bs g (hb.trans h1) (hk.trans h2) h3 h4
set_option maxRecDepth 100000 in
set_option maxHeartbeats 4000000 in
theorem wtuple_any {F : Nat} {cap : Array Value} (hcf : CallIs F) {B P M : Nat} {w : World} {bs : List UInt8} {g : Bool} (h : WS B P w bs g) (q : Nat) (ps : List (Nat × List UInt8)) (hne : ps ≠ []) (hn : ps.length ≤ 1048576) (hM : bs.length + 20 + sumL ps ≤ M) (hM2 : M + sumL ps ≤ 90000000)
    (HF : ∀ (j : Nat) (hj : j < ps.length), Parts B P w M F (#[.int .i64 j] ++ cap) (wrK q ps[j])) :
    Calls Tryz.prog 93 #[.pointer (some ⟨P, 0, none⟩), .int .i64 ps.length, .string ⟨#[44]⟩, .func (.func F) #[] cap] w (Wrote B P w (bs ++ (sp g ++ wrapL true (joinW [44, 32] q ps))) false) := by
  have hcf1 : CallIs 102 := fun args w => by kernel_rfl
  obtain ⟨w4, hw4⟩ : ∃ w4, w4 = (((w.alloc (.cells #[.pointer (some ⟨P, 0, none⟩)] 107)).alloc (.cells #[.int .i64 ps.length] 3)).alloc (.cells #[.string ⟨#[44]⟩] 9)).alloc (.cells #[.func (.func F) #[] cap] 127) := ⟨_, rfl⟩
  have hb4 : Below w.heap.size w w4 := by
    rw [hw4]
    exact (((below_new _ _).trans ((below_new _ _).mono (by simp only [World.size_alloc]; omega))).trans ((below_new _ _).mono (by simp only [World.size_alloc]; omega))).trans ((below_new _ _).mono (by simp only [World.size_alloc]; omega))
  have hP := h.lt
  have hws4 := h.on hb4
  have hB : B ≤ w.heap.size := h.2.1
  have g0 : w4.heap[w.heap.size]? = some (.cells #[.pointer (some ⟨P, 0, none⟩)] 107 (0, 0)) := by
    rw [hw4, (below_new _ _).block _ (by simp only [World.size_alloc]; omega), (below_new _ _).block _ (by simp only [World.size_alloc]; omega), (below_new _ _).block _ (by simp only [World.size_alloc]; omega)]; exact heap_alloc_new _ _
  have g1 : w4.heap[w.heap.size + 1]? = some (.cells #[.int .i64 ps.length] 3 (0, 0)) := by
    rw [hw4, (below_new _ _).block _ (by simp only [World.size_alloc]; omega), (below_new _ _).block _ (by simp only [World.size_alloc]; omega)]
    have := heap_alloc_new (w.alloc (.cells #[.pointer (some ⟨P, 0, none⟩)] 107)) (.cells #[.int .i64 ps.length] 3)
    simpa using this
  have g2 : w4.heap[w.heap.size + 1 + 1]? = some (.cells #[.string ⟨#[44]⟩] 9 (0, 0)) := by
    rw [hw4, (below_new _ _).block _ (by simp only [World.size_alloc]; omega)]
    have := heap_alloc_new ((w.alloc (.cells #[.pointer (some ⟨P, 0, none⟩)] 107)).alloc (.cells #[.int .i64 ps.length] 3)) (.cells #[.string ⟨#[44]⟩] 9)
    simpa using this
  have g3 : w4.heap[w.heap.size + 1 + 1 + 1]? = some (.cells #[.func (.func F) #[] cap] 127 (0, 0)) := by
    rw [hw4]
    have := heap_alloc_new (((w.alloc (.cells #[.pointer (some ⟨P, 0, none⟩)] 107)).alloc (.cells #[.int .i64 ps.length] 3)).alloc (.cells #[.string ⟨#[44]⟩] 9)) (.cells #[.func (.func F) #[] cap] 127)
    simpa using this
  have HPT : Hid (Parts B P w4 (M - 9 - sumL ps) 102 #[.pointer (some ⟨w.heap.size, 0, none⟩), .pointer (some ⟨w.heap.size + 1, 0, none⟩), .pointer (some ⟨w.heap.size + 1 + 1, 0, none⟩), .pointer (some ⟨w.heap.size + 1 + 1 + 1, 0, none⟩)] (joinW [44, 32] q ps)) := Lib.hid (by
    intro W bs' g' hb hk hws hl
    have q0 := kept_one hk g0 (by omega) (by decide)
    have q1 := kept_one hk g1 (by omega) (by decide)
    have q2 := kept_one hk g2 (by omega) (by decide)
    have q3 := kept_one hk g3 (by omega) (by decide)
    have HC := Lib.hid (wlist_any hcf hws q ps ⟨#[44]⟩ [44, 32] (by decide) (by decide) (fun bs => by unfold putB; rw [if_pos (.inr (.inr (.inl ((str_is _ _).2 rfl))))]; simp) (putG_no (by decide) (by decide) (by decide)) hn (M := M) (by omega) (by omega)
      (fun j hj => ((HF j hj).on (hb4.mono hB) (kept_on hb4)).on hb hk))
    clear hw4 hws hb hk g0 g1 g2 g3 HF hws4 h hb4
    go_enter Tryz.func102, Tryz.ntmps102
    go_wp2_with fail
    refine HC.out.mono ?_
    rintro e w5 ⟨rfl, h2, h3, h4⟩
    have H1 := Lib.hid (And.intro (h2 hne) (And.intro h3 h4))
    clear h2 h3 h4
    go_wp2
    go_end0
    exact ⟨rfl, H1.out⟩)
  have HC := Lib.hid (wgroup_any hcf1 hws4 true (joinW [44, 32] q ps) (by omega) (by have := join_len [44, 32] q (by decide) ps; omega) HPT.out)
  have H4 := Lib.hid (And.intro (hb4.mono hB) (kept_on (P := P) hb4))
  have HW4 := Lib.hid hw4
  clear hcf hcf1 HF h hb4 hws4 g0 g1 g2 g3 HPT hw4 hM hM2 hn
  go_enter Tryz.func93, Tryz.ntmps93
  go_wp2_with fail
  rw [← HW4.out]
  refine HC.out.mono ?_
  rintro e w5 ⟨rfl, h2, h3, h4⟩
  have H1 := Lib.hid (And.intro h2 (And.intro (H4.out.1.trans h3) (H4.out.2.trans h4)))
  clear h2 h3 h4
  go_wp2
  go_end0
  exact ⟨rfl, H1.out⟩
end Go.Proofs.YtoopopjcojphaaaGreatDoor
