/-
  THE REFERENCE's place, Vars, SameInts; the law's Formed.
-/
import Derived.Test.YtgdclchpccbifaaTyV
namespace Go.Proofs.Ytgdclchpccbifaa
open Go.ChangeShapes Go.WideShapes Go.ChangeAt Go.RowKit
set_option linter.unusedVariables false
theorem idx_le {x : Int} : ∀ {vs : List Int} {k : Nat} (hk : k < vs.length), vs[k] = x → vs.idxOf x ≤ k
  | [], k, hk, _ => by simp at hk
  | a :: r, k, hk, hx => by
    rw [List.idxOf_cons]
    by_cases ha : a = x
    · simp [ha]
    · cases k with
      | zero => exact absurd hx ha
      | succ k =>
        have := idx_le (vs := r) (k := k) (by simpa using hk) (by simpa using hx)
        rw [show (a == x) = false by simpa using ha]
        simp; omega
theorem idx_take {vs : List Int} {x : Int} {k : Nat} (hk : k < vs.length) (hno : ∀ i (h : i < vs.length), i < k → vs[i] ≠ x) (hx : vs[k] = x) : placeR vs x = k := by
  have hm : x ∈ vs := hx ▸ List.getElem_mem hk
  unfold placeR
  rw [if_pos hm]
  have h1 := List.idxOf_lt_length_of_mem hm
  have h2 : vs[vs.idxOf x] = x := List.getElem_idxOf h1
  rcases Nat.lt_trichotomy (vs.idxOf x) k with h | h | h
  · exact absurd h2 (hno _ h1 h)
  · rw [h]
  · have := idx_le hk hx; omega
theorem idx_none {vs : List Int} {x : Int} (hno : ∀ i (h : i < vs.length), vs[i] ≠ x) : placeR vs x = -1 := by
  unfold placeR
  rw [if_neg]
  intro hm
  obtain ⟨i, hi, he⟩ := List.getElem_of_mem hm
  exact hno i hi he
theorem place_any (vs : List Int) (x : Int) (A : Option Addr) (c : Nat) (hl : vs.length ≤ 1048576) (w : World) (B : Nat) (h : IntsAt w B A vs) :
    Calls Try.prog 53 #[.slice A vs.length c, .int .i64 x] w fun e w' => e = .returned (.int .i64 (placeR vs x)) ∧ w = w' := by
  have HA := Lib.hid h
  clear h
  go_enter Try.func53, Try.ntmps53
  go_wp2
  go_loop [5] (fun z => ∃ k : Nat, k ≤ vs.length ∧ z = .int .i64 k ∧ ∀ i (h : i < vs.length), i < k → vs[i] ≠ x) (fun z => vs.length - (intOf z).toNat)
  case atStart => exact ⟨0, Nat.zero_le _, rfl, fun i _ h => absurd h (Nat.not_lt_zero _)⟩
  case round =>
    obtain ⟨k, hk, rfl, hno⟩ := hrel
    have HN := Lib.hid hno
    clear hno
    by_cases hlt : k < vs.length
    · obtain ⟨ad, rfl, _, hc⟩ := HA.out.at_ hlt
      by_cases he : vs[k] = x
      · have q : (vs[k] == x) = true := by simpa using he
        have HE := Lib.hid he
        clear he
        go_wp2
        go_ret
        exact ⟨ret_int (idx_take hlt HN.out HE.out).symm, rfl⟩
      · have q : (vs[k] == x) = false := by simpa using he
        have HE := Lib.hid he
        clear he
        go_wp2
        go_round
        case rel => exact ⟨k + 1, by omega, by go_num, fun i hi hik => by
          by_cases e : i = k
          · subst e; exact HE.out
          · exact HN.out i hi (by omega)⟩
        case measure => simp [intOf]; omega
    · obtain rfl : k = vs.length := by omega
      go_wp2
      go_ret
      exact ⟨ret_int (idx_none fun i hi => HN.out i hi hi).symm, rfl⟩
theorem sameInts_any (xs ys : List Int) (A A' : Option Addr) (c c' : Nat) (hl : xs.length ≤ 1048576) (w : World) (hA : IntsAt w w.heap.size A xs) (hA' : IntsAt w w.heap.size A' ys) (he : xs = ys) :
    Calls Try.prog 25 #[.slice A xs.length c, .slice A' ys.length c'] w fun e w' => e = .returned (.bool true) ∧ Below w.heap.size w w' := by
  subst he
  have HA := Lib.hid hA
  have HA' := Lib.hid hA'
  clear hA hA'
  go_enter Try.func25, Try.ntmps25
  go_wp2
  go_loopw [5] (fun z wr => ∃ k : Nat, k ≤ xs.length ∧ z = .int .i64 k ∧ Below w.heap.size w wr) (fun z _ => xs.length - (intOf z).toNat)
  case atStart => exact ⟨0, Nat.zero_le _, rfl, Below.refl _ _⟩
  case round =>
    obtain ⟨k, hk, rfl, hb⟩ := hrel
    have HB := Lib.hid hb
    clear hb
    by_cases hlt : k < xs.length
    · obtain ⟨ad, rfl, had, hc⟩ := HA.out.at_ hlt
      obtain ⟨ad', rfl, had', hc'⟩ := HA'.out.at_ hlt
      have HC : Hid (∀ W', Below wr.heap.size wr W' → W'.cell? (ad.add k) = some (.int .i64 xs[k]) ∧ W'.cell? (ad'.add k) = some (.int .i64 xs[k])) := Lib.hid fun W' h => by
        have hz := HB.out.size
        have h1 := HB.out.trans (h.mono hz)
        exact ⟨(h1.cell (by rw [block_add]; exact had)).trans hc, (h1.cell (by rw [block_add]; exact had')).trans hc'⟩
      have q : (xs[k] != xs[k]) = false := by simp
      generalize xs[k] = x at *
      clear hc hc' had had'
      go_wp2
      refine wp_region_K (fun w' => Below wr.heap.size wr w') (fun j => true) (by kernel_rfl) ?_
      refine wpK_take0 (v := ?_) (a' := ?_) 0 rfl (by kernel_rfl) (by kernel_rfl) (by kernel_rfl) (by kernel_rfl) (fun _ _ _ h => h) ?_ ?_ ?_
      rotate_left 2
      · refine .inl ⟨by kernel_rfl, ?_⟩; intro wS hS; clear hS; go_simp; with_reducible rfl
      · go_simp; with_reducible rfl
      refine wpK_take0 (v := ?_) (a' := ?_) 1 rfl (by kernel_rfl) (by kernel_rfl) (by kernel_rfl) (by kernel_rfl) (fun _ _ _ h => h) ?_ ?_ ?_
      rotate_left 2
      · refine .inl ⟨by kernel_rfl, ?_⟩; intro wS hS; clear hS; go_simp; with_reducible rfl
      · go_simp; with_reducible rfl
      refine wpK_take0 (v := ?_) (a' := ?_) 2 rfl (by kernel_rfl) (by kernel_rfl) (by kernel_rfl) (by kernel_rfl) (fun _ _ _ h => h) ?_ ?_ ?_
      rotate_left 2
      · refine .inl ⟨by kernel_rfl, ?_⟩; intro wS hS; clear hS; go_simp; with_reducible rfl
      · go_simp; with_reducible rfl
      refine wpK_take (v := ?_) (a' := ?_) 3 rfl (by kernel_rfl) (by kernel_rfl) (by kernel_rfl) (by kernel_rfl) (by kernel_rfl) (fun _ _ _ h => h) (below_drew1 (Below.refl _ _)) ?_ ?_ ?_
      rotate_left 2
      · refine .inl ⟨by kernel_rfl, ?_⟩; intro wS hS; obtain ⟨q1, q2⟩ := HC.out _ hS; go_simp; with_reducible rfl
      · go_simp; with_reducible rfl
      refine wpK_take0 (v := ?_) (a' := ?_) 4 rfl (by kernel_rfl) (by kernel_rfl) (by kernel_rfl) (by kernel_rfl) (fun _ _ _ h => h) ?_ ?_ ?_
      rotate_left 2
      · refine .inl ⟨by kernel_rfl, ?_⟩; intro wS hS; clear hS; go_simp; with_reducible rfl
      · go_simp; with_reducible rfl
      refine wpK_take0 (v := ?_) (a' := ?_) 5 rfl (by kernel_rfl) (by kernel_rfl) (by kernel_rfl) (by kernel_rfl) (fun _ _ _ h => h) ?_ ?_ ?_
      rotate_left 2
      · refine .inl ⟨by kernel_rfl, ?_⟩; intro wS hS; clear hS; go_simp; with_reducible rfl
      · go_simp; with_reducible rfl
      refine wpK_take0 (v := ?_) (a' := ?_) 6 rfl (by kernel_rfl) (by kernel_rfl) (by kernel_rfl) (by kernel_rfl) (fun _ _ _ h => h) ?_ ?_ ?_
      rotate_left 2
      · refine .inl ⟨by kernel_rfl, ?_⟩; intro wS hS; clear hS; go_simp; with_reducible rfl
      · go_simp; with_reducible rfl
      refine wpK_take (v := ?_) (a' := ?_) 7 rfl (by kernel_rfl) (by kernel_rfl) (by kernel_rfl) (by kernel_rfl) (by kernel_rfl) (fun _ _ _ h => h) (below_drew1 (Below.refl _ _)) ?_ ?_ ?_
      rotate_left 2
      · refine .inl ⟨by kernel_rfl, ?_⟩; intro wS hS; obtain ⟨q1, q2⟩ := HC.out _ hS; go_simp; with_reducible rfl
      · go_simp; with_reducible rfl
      refine wpK_take0 (v := ?_) (a' := ?_) 8 rfl (by kernel_rfl) (by kernel_rfl) (by kernel_rfl) (by kernel_rfl) (fun _ _ _ h => h) ?_ ?_ ?_
      rotate_left 2
      · refine .inl ⟨by kernel_rfl, ?_⟩; intro wS hS; clear hS; go_simp; with_reducible rfl
      · go_simp; with_reducible rfl
      refine wpK_end (by kernel_rfl) ?_ _
      go_wp2
      go_roundw
      case rel => exact ⟨k + 1, by omega, by go_num, HB.out.trans ((below_drew1 (Below.refl _ _)).mono HB.out.size)⟩
      case measure => simp [intOf]; omega
    · obtain rfl : k = xs.length := by omega
      go_wp2
      go_ret
      exact ⟨rfl, HB.out⟩
/-- The law's Formed. -/
theorem lformed_any (l : List Tt) (A : Option Addr) (c : Nat) (hl : l.length ≤ 1048576) (w : World) (h : Rows TyR 4 w (Lt w.heap.size) A l) (hsz : ∀ t ∈ l, (pre t).length ≤ 1048576) :
    Calls Try.prog 22 #[.slice A l.length c] w fun e w' => e = .returned (.bool (l.all formedT)) ∧ Below w.heap.size w w' := by
  have HR := Lib.hid h
  have HSZ := Lib.hid hsz
  clear h hsz
  go_enter Try.func22, Try.ntmps22
  go_wp2
  go_loopw [3] (fun z wr => ∃ j : Nat, j ≤ l.length ∧ z = .int .i64 j ∧ (l.take j).all formedT = true ∧ Below w.heap.size w wr) (fun z _ => l.length - (intOf z).toNat)
  case atStart => exact ⟨0, Nat.zero_le _, rfl, rfl, Below.refl _ _⟩
  case round =>
    obtain ⟨j, hj, rfl, hall, hb⟩ := hrel
    have HA := Lib.hid hall
    have HB := Lib.hid hb
    clear hall hb
    by_cases hlt : j < l.length
    · obtain ⟨b, o, cs, rfl, hSb, hr, hd⟩ := HR.out.at_ hlt
      have hsj := HSZ.out _ (List.getElem_mem hlt)
      have HST : Hid (formedT l[j] = false → l.all formedT = false) := Lib.hid fun h => by
        rw [Bool.eq_false_iff]; intro ha
        have := List.all_eq_true.1 ha _ (List.getElem_mem hlt)
        rw [h] at this; cases this
      have HNX : Hid (formedT l[j] = true → (l.take (j + 1)).all formedT = true) := Lib.hid fun h => by
        rw [List.take_succ_eq_append_getElem hlt, List.all_append, HA.out]; simp [h]
      generalize l[j] = x at *
      obtain ⟨k2, n2, s2, l2⟩ := x
      obtain ⟨A2, c2, hcs, _⟩ := TyR.open_ hd
      simp only [Tt.kind, Tt.num, Tt.name, Tt.args] at hcs
      subst hcs
      have HRR : Hid (wr.rangeAt b (o + j * 4) [.int .i64 k2, .int .i64 n2, .string s2, .slice A2 l2.length c2]) := Lib.hid (range_keep hr HB.out hSb)
      have HV := Lib.hid (Val.on (show Val w (.mk k2 n2 s2 l2) _ from ⟨A2, c2, rfl, hd⟩) HB.out)
      have HF := Lib.hid (formed_val HV.out hsj)
      clear hr hd hSb hsj
      cases hg : formedT (.mk k2 n2 s2 l2)
      · have HGG := Lib.hid hg
        clear hg
        go_wp2_with (first | (refine wpList_load_mid rfl 25 _ rfl b (o + j * 4) rfl _ _ HRR.out Try.underlying25 rfl (tySize _ _ _ _) ?_) | (go_at_call 21; refine HF.out.mono ?_; rw [HGG.out]; rintro e w2 ⟨rfl, hb2⟩; have HB2 := Lib.hid hb2; clear hb2))
        go_ret
        exact ⟨ret_bool (by rw [HST.out HGG.out]), below_then HB.out HB2.out⟩
      · have HGG := Lib.hid hg
        clear hg
        go_wp2_with (first | (refine wpList_load_mid rfl 25 _ rfl b (o + j * 4) rfl _ _ HRR.out Try.underlying25 rfl (tySize _ _ _ _) ?_) | (go_at_call 21; refine HF.out.mono ?_; rw [HGG.out]; rintro e w2 ⟨rfl, hb2⟩; have HB2 := Lib.hid hb2; clear hb2))
        go_roundw
        case rel => exact ⟨j + 1, by omega, by go_num, HNX.out HGG.out, below_then HB.out HB2.out⟩
        case measure => simp [intOf]; omega
    · obtain rfl : j = l.length := by omega
      go_wp2
      go_ret
      exact ⟨ret_bool (by have := HA.out; rw [List.take_length] at this; rw [this]), HB.out⟩
end Go.Proofs.Ytgdclchpccbifaa
