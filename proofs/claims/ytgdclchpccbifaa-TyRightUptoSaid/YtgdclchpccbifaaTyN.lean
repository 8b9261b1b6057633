/-
  THE LAW's EXAMPLES.
-/
import Derived.Test.YtgdclchpccbifaaTyV
import Derived.Deep.DeepCutAuto
namespace Go.Proofs.Ytgdclchpccbifaa
open Go.ChangeShapes Go.WideShapes Go.ChangeAt Go.RowKit
set_option linter.unusedVariables false
theorem val_a (w : World) : Val w tA (.agg #[.int .i64 1, .int .i64 0, .string ⟨#[]⟩, .slice none 0 0]) := val_leaf w 1 0 ⟨#[]⟩ (by omega) (by decide)
theorem val_b (w : World) : Val w tB (.agg #[.int .i64 1, .int .i64 1, .string ⟨#[]⟩, .slice none 0 0]) := val_leaf w 1 1 ⟨#[]⟩ (by omega) (by decide)
theorem val_c (w : World) : Val w tC (.agg #[.int .i64 1, .int .i64 2, .string ⟨#[]⟩, .slice none 0 0]) := val_leaf w 1 2 ⟨#[]⟩ (by omega) (by decide)
theorem canon_call {w : World} {x : Value} (h : Val w (fnT tC (fnT tA tC)) x) : Calls Try.prog 23 #[x] w fun e w' => ∃ A c A' c', e = .returned (.tuple #[.agg #[.int .i64 2, .int .i64 0, .string ⟨#[45, 62]⟩, .slice A 2 c], .slice A' 2 c']) ∧
    TyR.rd w' (New w.heap.size w') (fnT tA (fnT tB tA)) [.int .i64 2, .int .i64 0, .string ⟨#[45, 62]⟩, .slice A 2 c] ∧ IntsAt w' w'.heap.size A' [2, 0] ∧ (∀ ad : Addr, A' = some ad → w.heap.size ≤ ad.block) ∧ Below w.heap.size w w' := by
  have := canon_new h (by decide)
  unfold CanonMade at this
  rw [canon_ex, vars_ex] at this
  refine this.mono ?_
  rintro e w' ⟨A, c, A', c', he, h1, h2, _, _, h5, h6⟩
  exact ⟨A, c, A', c', he, h1, h2, h5, h6⟩
def Ex2 (w wx : World) (s3 s4 : Value) : Prop := ∃ (g c6 c5 : Nat) (A6 A5 : Option Addr), s3 = .pointer (some ⟨g, 0, none⟩) ∧ s4 = .slice A5 2 c5 ∧ wx.heap[g]? = some (.cells #[.int .i64 2, .int .i64 0, .string ⟨#[45, 62]⟩, .slice A6 2 c6] 25 (0, 0)) ∧
    Val wx (fnT tA (fnT tB tA)) (.agg #[.int .i64 2, .int .i64 0, .string ⟨#[45, 62]⟩, .slice A6 2 c6]) ∧ IntsAt wx wx.heap.size A5 [2, 0] ∧ Below w.heap.size w wx ∧
    wx.heap[w.heap.size]? = some (.cells #[.int .i64 1, .int .i64 0, .string ⟨#[]⟩, .slice none 0 0] 25 (0, 0))
theorem IntsAt.keep' {w w' : World} {B : Nat} {A : Option Addr} {xs : List Int} (h : IntsAt w B A xs) (hk : ∀ (ad : Addr), A = some ad → ∀ k : Nat, w'.cell? (ad.add k) = w.cell? (ad.add k)) : IntsAt w' B A xs := fun k x hx => by
  obtain ⟨ad, e, hb, hc⟩ := h k x hx
  exact ⟨ad, e, hb, (hk ad e k).trans hc⟩
theorem ex2 {w wr w3 : World} {g c5 c6 B5 : Nat} {A5 A6 : Option Addr} {Sx : Nat → Prop} (hb0 : Below w.heap.size w wr) (hz : wr.heap.size = w.heap.size + 2) (hs : Below wr.heap.size wr w3) (hg : wr.heap.size ≤ g) (hG : w3.heap[g]? = some (.cells #[.int .i64 0, .int .i64 0, .string ⟨#[]⟩, .slice none 0 0] 25 (0, 0)))
    (hd : TyR.rd w3 Sx (fnT tA (fnT tB tA)) [.int .i64 2, .int .i64 0, .string ⟨#[45, 62]⟩, .slice A6 2 c6]) (hSx : ∀ b, Sx b → b ≠ g ∧ b < w3.heap.size) (hi : IntsAt w3 B5 A5 [2, 0]) (hB5 : B5 ≤ w3.heap.size) (hne : ∀ ad : Addr, A5 = some ad → ad.block ≠ g) (hr : w3.heap[w.heap.size]? = some (.cells #[.int .i64 1, .int .i64 0, .string ⟨#[]⟩, .slice none 0 0] 25 (0, 0))) :
    Ex2 w (w3.setRow g #[.int .i64 2, .int .i64 0, .string ⟨#[45, 62]⟩, .slice A6 2 c6]) (.pointer (some ⟨g, 0, none⟩)) (.slice A5 2 c5) := by
  refine ⟨g, c6, c5, A6, A5, rfl, rfl, setRow_row hG, ⟨A6, c6, rfl, ?_⟩, ?_, ?_, ?_⟩
  · exact TyR.more (S := Sx) (fun b hb => by rw [size_setRow]; exact (hSx b hb).2) (TyR.keep (fun b o hb => World.cell?_of_block (a := ⟨b, o, none⟩) (setRow_old (hSx b hb).1)) hd)
  · rw [size_setRow]
    refine (hi.more hB5).keep' ?_
    exact fun ad e k => World.cell?_of_block (setRow_old (by rw [block_add]; exact hne ad e))
  · have h1 := hb0.trans (hs.mono (by omega : w.heap.size ≤ wr.heap.size))
    exact ⟨h1.os, h1.tape, h1.output, by rw [size_setRow]; exact h1.size, fun k hk => (setRow_old (by omega)).trans (h1.block k hk)⟩
  · rw [setRow_old (by omega)]; exact hr
set_option maxRecDepth 100000 in
set_option maxHeartbeats 4000000 in
theorem knows_any (w : World) : Calls Try.prog 16 #[] w fun e w' => e = .returned (.bool true) ∧ Below w.heap.size w w' := by
  go_enter Try.func16, Try.ntmps16
  go_upto_region 2 with fail
  go_cut [3, 4] (fun s3 s4 wx => Ex2 w wx s3 s4)
  case first =>
    have hb0 : Below w.heap.size w ((w.alloc (.cells #[.int .i64 1, .int .i64 0, .string ⟨#[]⟩, .slice none 0 0] 25)).alloc (.cells #[.int .i64 1, .int .i64 2, .string ⟨#[]⟩, .slice none 0 0] 25)) := (below_new _ _).alloc (by simp) _
    have hr1 : ((w.alloc (.cells #[.int .i64 1, .int .i64 0, .string ⟨#[]⟩, .slice none 0 0] 25)).alloc (.cells #[.int .i64 1, .int .i64 2, .string ⟨#[]⟩, .slice none 0 0] 25)).heap[w.heap.size]? = some (.cells #[.int .i64 1, .int .i64 0, .string ⟨#[]⟩, .slice none 0 0] 25 (0, 0)) := heap_alloc2_old _ _ _
    have hr2 : ((w.alloc (.cells #[.int .i64 1, .int .i64 0, .string ⟨#[]⟩, .slice none 0 0] 25)).alloc (.cells #[.int .i64 1, .int .i64 2, .string ⟨#[]⟩, .slice none 0 0] 25)).heap[w.heap.size + 1]? = some (.cells #[.int .i64 1, .int .i64 2, .string ⟨#[]⟩, .slice none 0 0] 25 (0, 0)) := heap_alloc2_new _ _ _
    have hz : ((w.alloc (.cells #[.int .i64 1, .int .i64 0, .string ⟨#[]⟩, .slice none 0 0] 25)).alloc (.cells #[.int .i64 1, .int .i64 2, .string ⟨#[]⟩, .slice none 0 0] 25)).heap.size = w.heap.size + 2 := by simp
    generalize (w.alloc (.cells #[.int .i64 1, .int .i64 0, .string ⟨#[]⟩, .slice none 0 0] 25)).alloc (.cells #[.int .i64 1, .int .i64 2, .string ⟨#[]⟩, .slice none 0 0] 25) = wr at *
    have HB0 := Lib.hid hb0
    have HR1 : Hid (∀ W', Below wr.heap.size wr W' → W'.heap[w.heap.size]? = some (.cells #[.int .i64 1, .int .i64 0, .string ⟨#[]⟩, .slice none 0 0] 25 (0, 0))) := Lib.hid fun W' h => (h.block _ (by omega)).trans hr1
    have HR2 : Hid (∀ W', Below wr.heap.size wr W' → W'.heap[w.heap.size + 1]? = some (.cells #[.int .i64 1, .int .i64 2, .string ⟨#[]⟩, .slice none 0 0] 25 (0, 0))) := Lib.hid fun W' h => (h.block _ (by omega)).trans hr2
    have HZ := Lib.hid hz
    clear hb0 hr1 hr2 hz
    refine wp_region_K (fun w' => Below wr.heap.size wr w') (fun j => j != 10) (by kernel_rfl) ?_
    refine wpK_take (v := (.agg #[.int .i64 1, .int .i64 2, .string ⟨#[]⟩, .slice none 0 0])) (a' := ?_) 0 rfl (by kernel_rfl) (by kernel_rfl) (by kernel_rfl) (by kernel_rfl) (by kernel_rfl) (fun _ _ _ h => h) (below_drew1 (Below.refl _ _)) ?_ ?_ ?_
    rotate_left 1
    · exact yieldsIf_load_mid (by kernel_rfl) 25 (.tmp 2) rfl (w.heap.size + 1) 0 (by go_simp) [.int .i64 1, .int .i64 2, .string ⟨#[]⟩, .slice none 0 0] _ (fun wS hS => range_row (HR2.out _ hS)) Try.underlying25 rfl (tySize _ _ _ _)
    · go_simp; with_reducible rfl
    refine wpK_take (v := (.agg #[.int .i64 1, .int .i64 0, .string ⟨#[]⟩, .slice none 0 0])) (a' := ?_) 1 rfl (by kernel_rfl) (by kernel_rfl) (by kernel_rfl) (by kernel_rfl) (by kernel_rfl) (fun _ _ _ h => h) (below_drew1 (Below.refl _ _)) ?_ ?_ ?_
    rotate_left 1
    · exact yieldsIf_load_mid (by kernel_rfl) 25 (.tmp 1) rfl (w.heap.size) 0 (by go_simp) [.int .i64 1, .int .i64 0, .string ⟨#[]⟩, .slice none 0 0] _ (fun wS hS => range_row (HR1.out _ hS)) Try.underlying25 rfl (tySize _ _ _ _)
    · go_simp; with_reducible rfl
    refine wpK_take (v := (.agg #[.int .i64 1, .int .i64 2, .string ⟨#[]⟩, .slice none 0 0])) (a' := ?_) 2 rfl (by kernel_rfl) (by kernel_rfl) (by kernel_rfl) (by kernel_rfl) (by kernel_rfl) (fun _ _ _ h => h) (below_drew1 (Below.refl _ _)) ?_ ?_ ?_
    rotate_left 1
    · exact yieldsIf_load_mid (by kernel_rfl) 25 (.tmp 2) rfl (w.heap.size + 1) 0 (by go_simp) [.int .i64 1, .int .i64 2, .string ⟨#[]⟩, .slice none 0 0] _ (fun wS hS => range_row (HR2.out _ hS)) Try.underlying25 rfl (tySize _ _ _ _)
    · go_simp; with_reducible rfl
    have HS := Lib.hid (below_drew1 (Below.refl wr.heap.size wr))
    refine wpK_two 3 9 rfl rfl (by kernel_rfl) (fun K hK => ?_) (fun K hK => ?_)
    · have HKK := Lib.hid hK
      clear hK
      go_wp2_with fail
      refine (fn_val (val_a _) (val_c _)).mono ?_
      rintro e w1 ⟨v1, rfl, hv, hb⟩
      have HV := Lib.hid hv
      have HS := Lib.hid (HS.out.trans (hb.mono HS.out.size))
      clear hv hb
      go_wp2
      refine HKK.out _ _ (fun _ _ => HS.out) ?_
      have HSP := Lib.hid HS.out.size
      refine wpK_two 4 9 rfl rfl (by kernel_rfl) (fun K hK => ?_) (fun K hK => ?_)
      · have HKK := Lib.hid hK
        clear hK
        go_wp2_with fail
        refine (fn_val (val_c _) HV.out).mono ?_
        rintro e w2 ⟨v2, rfl, hv, hb⟩
        have HV := Lib.hid hv
        have HS := Lib.hid (HS.out.trans (hb.mono HS.out.size))
        clear hv hb
        go_wp2
        refine HKK.out _ _ (fun _ _ => HS.out) ?_
        have HSP := Lib.hid HS.out.size
        refine wpK_two 5 9 rfl rfl (by kernel_rfl) (fun K hK => ?_) (fun K hK => ?_)
        · have HKK := Lib.hid hK
          clear hK
          go_wp2_with fail
          refine (canon_call HV.out).mono ?_
          rintro e w3 ⟨A6, c6, A5, c5, rfl, hd, hi, hl, hb⟩
          have HI := Lib.hid hi
          have HD := Lib.hid hd
          have HL := Lib.hid hl
          clear hi hd hl
          have HS := Lib.hid (HS.out.trans (hb.mono HS.out.size))
          clear hb
          go_wp2
          refine HKK.out _ _ (fun _ _ => HS.out) ?_
          have HSP := Lib.hid HS.out.size
          refine wpK_take0 (v := ?_) (a' := ?_) 6 rfl (by kernel_rfl) (by kernel_rfl) (by kernel_rfl) (by kernel_rfl) (fun _ _ _ h => h) ?_ ?_ ?_
          rotate_left 2
          · refine .inl ⟨by kernel_rfl, ?_⟩; intro wS hS; clear hS; go_simp; with_reducible rfl
          · go_simp; with_reducible rfl
          refine wpK_take0 (v := ?_) (a' := ?_) 7 rfl (by kernel_rfl) (by kernel_rfl) (by kernel_rfl) (by kernel_rfl) (fun _ _ _ h => h) ?_ ?_ ?_
          rotate_left 2
          · refine .inl ⟨by kernel_rfl, ?_⟩; intro wS hS; clear hS; go_simp; with_reducible rfl
          · go_simp; with_reducible rfl
          refine wpK_take0 (v := ?_) (a' := ?_) 8 rfl (by kernel_rfl) (by kernel_rfl) (by kernel_rfl) (by kernel_rfl) (fun _ _ _ h => h) ?_ ?_ ?_
          rotate_left 2
          · refine .inl ⟨by kernel_rfl, ?_⟩; intro wS hS; clear hS; go_simp; with_reducible rfl
          · go_simp; with_reducible rfl
          refine wpK_one 9 rfl (by kernel_rfl) (fun K hK => ?_)
          have HKK := Lib.hid hK
          clear hK
          go_wp2
          obtain ⟨wa, g, hwa, hg⟩ : ∃ wa g, wa = w3.alloc (.cells #[.int .i64 0, .int .i64 0, .string ⟨#[]⟩, .slice none 0 0] 25) ∧ g = w3.heap.size := ⟨_, _, rfl, rfl⟩
          have hG : wa.heap[g]? = some (.cells #[.int .i64 0, .int .i64 0, .string ⟨#[]⟩, .slice none 0 0] 25 (0, 0)) := by rw [hwa, hg]; exact heap_alloc_new _ _
          have hBA : Below w3.heap.size w3 wa := by rw [hwa]; exact below_new _ _
          have HI := Lib.hid (HI.out.below hBA)
          have HD := Lib.hid (TyR.keep (Same.of_below hBA fun b hb => hb.2) HD.out)
          have HGE := Lib.hid hg
          have HS := Lib.hid (HS.out.trans (hBA.mono HS.out.size))
          have HG := Lib.hid hG
          have HSZ : Hid (wr.heap.size ≤ g) := Lib.hid (by rw [hg]; exact HSP.out)
          refine HKK.out _ _ (fun _ _ => by first | exact HS.out | (rw [← hwa]; exact HS.out)) ?_
          first | rw [← hwa] | skip
          rw [← hg]
          clear hG hBA hwa hg
          refine wpK_one 10 rfl (by kernel_rfl) (fun K hK => ?_)
          have HKK := Lib.hid hK
          clear hK
          refine wpList_store_row rfl 25 (.tmp 3) (.tmp 14) rfl _ _ rfl rfl 25 #[.int .i64 0, .int .i64 0, .string ⟨#[]⟩, .slice none 0 0] HG.out (tySizeA _ _ _ _) rfl (one4 _ _ _ _ _ _) ?_
          refine wpList_nil ?_
          refine HKK.out _ _ (fun h => absurd h (by decide)) ?_
          refine wpK_take0 (v := ?_) (a' := ?_) 11 rfl (by kernel_rfl) (by kernel_rfl) (by kernel_rfl) (by kernel_rfl) (fun _ _ _ h => h) ?_ ?_ ?_
          rotate_left 2
          · refine .inl ⟨by kernel_rfl, ?_⟩; intro wS hS; clear hS; go_simp; with_reducible rfl
          · go_simp; with_reducible rfl
          refine wpK_end (by kernel_rfl) ?_ _
          go_wp2
          go_meet
          exact ex2 HB0.out HZ.out HS.out HSZ.out HG.out HD.out (fun b hb => ⟨by have := hb.2; have := HGE.out; omega, by have := hb.2; have := HGE.out; have := lt_of_cells HG.out; omega⟩) HI.out (by have := HGE.out; have := lt_of_cells HG.out; omega) (fun ad e => by have := HGE.out; have := ints_lt HI.out ad e; omega) (HR1.out _ HS.out)
        · have HKK := Lib.hid hK
          clear hK
          go_wp2
          obtain ⟨wa, g, hwa, hg⟩ : ∃ wa g, wa = w2.alloc (.cells #[.int .i64 0, .int .i64 0, .string ⟨#[]⟩, .slice none 0 0] 25) ∧ g = w2.heap.size := ⟨_, _, rfl, rfl⟩
          have hG : wa.heap[g]? = some (.cells #[.int .i64 0, .int .i64 0, .string ⟨#[]⟩, .slice none 0 0] 25 (0, 0)) := by rw [hwa, hg]; exact heap_alloc_new _ _
          have hBA : Below w2.heap.size w2 wa := by rw [hwa]; exact below_new _ _
          have HV := Lib.hid (HV.out.on hBA)
          have HS := Lib.hid (HS.out.trans (hBA.mono HS.out.size))
          have HG := Lib.hid hG
          have HSZ : Hid (wr.heap.size ≤ g) := Lib.hid (by rw [hg]; exact HSP.out)
          refine HKK.out _ _ (fun _ _ => by first | exact HS.out | (rw [← hwa]; exact HS.out)) ?_
          first | rw [← hwa] | skip
          rw [← hg]
          clear hG hBA hwa hg
          refine wpK_one 5 rfl (by kernel_rfl) (fun K hK => ?_)
          have HKK := Lib.hid hK
          clear hK
          go_wp2_with fail
          refine (canon_call HV.out).mono ?_
          have HGL := Lib.hid (lt_of_cells HG.out)
          rintro e w3 ⟨A6, c6, A5, c5, rfl, hd, hi, hl, hb⟩
          have HI := Lib.hid hi
          have HD := Lib.hid hd
          have HL := Lib.hid hl
          clear hi hd hl
          have HS := Lib.hid (HS.out.trans (hb.mono HS.out.size))
          have HG := Lib.hid ((hb.block _ (lt_of_cells HG.out)).trans HG.out)
          clear hb
          go_wp2
          refine HKK.out _ _ (fun _ _ => HS.out) ?_
          refine wpK_take0 (v := ?_) (a' := ?_) 6 rfl (by kernel_rfl) (by kernel_rfl) (by kernel_rfl) (by kernel_rfl) (fun _ _ _ h => h) ?_ ?_ ?_
          rotate_left 2
          · refine .inl ⟨by kernel_rfl, ?_⟩; intro wS hS; clear hS; go_simp; with_reducible rfl
          · go_simp; with_reducible rfl
          refine wpK_take0 (v := ?_) (a' := ?_) 7 rfl (by kernel_rfl) (by kernel_rfl) (by kernel_rfl) (by kernel_rfl) (fun _ _ _ h => h) ?_ ?_ ?_
          rotate_left 2
          · refine .inl ⟨by kernel_rfl, ?_⟩; intro wS hS; clear hS; go_simp; with_reducible rfl
          · go_simp; with_reducible rfl
          refine wpK_take0 (v := ?_) (a' := ?_) 8 rfl (by kernel_rfl) (by kernel_rfl) (by kernel_rfl) (by kernel_rfl) (fun _ _ _ h => h) ?_ ?_ ?_
          rotate_left 2
          · refine .inl ⟨by kernel_rfl, ?_⟩; intro wS hS; clear hS; go_simp; with_reducible rfl
          · go_simp; with_reducible rfl
          refine wpK_one 10 rfl (by kernel_rfl) (fun K hK => ?_)
          have HKK := Lib.hid hK
          clear hK
          refine wpList_store_row rfl 25 (.tmp 3) (.tmp 14) rfl _ _ rfl rfl 25 #[.int .i64 0, .int .i64 0, .string ⟨#[]⟩, .slice none 0 0] HG.out (tySizeA _ _ _ _) rfl (one4 _ _ _ _ _ _) ?_
          refine wpList_nil ?_
          refine HKK.out _ _ (fun h => absurd h (by decide)) ?_
          refine wpK_take0 (v := ?_) (a' := ?_) 11 rfl (by kernel_rfl) (by kernel_rfl) (by kernel_rfl) (by kernel_rfl) (fun _ _ _ h => h) ?_ ?_ ?_
          rotate_left 2
          · refine .inl ⟨by kernel_rfl, ?_⟩; intro wS hS; clear hS; go_simp; with_reducible rfl
          · go_simp; with_reducible rfl
          refine wpK_end (by kernel_rfl) ?_ _
          go_wp2
          go_meet
          exact ex2 HB0.out HZ.out HS.out HSZ.out HG.out HD.out (fun b hb => ⟨by have := hb.1; have := HGL.out; omega, hb.2⟩) HI.out (Nat.le_refl _) (fun ad e => by have := HL.out ad e; have := HGL.out; omega) (HR1.out _ HS.out)
      · have HKK := Lib.hid hK
        clear hK
        go_wp2
        obtain ⟨wa, g, hwa, hg⟩ : ∃ wa g, wa = w1.alloc (.cells #[.int .i64 0, .int .i64 0, .string ⟨#[]⟩, .slice none 0 0] 25) ∧ g = w1.heap.size := ⟨_, _, rfl, rfl⟩
        have hG : wa.heap[g]? = some (.cells #[.int .i64 0, .int .i64 0, .string ⟨#[]⟩, .slice none 0 0] 25 (0, 0)) := by rw [hwa, hg]; exact heap_alloc_new _ _
        have hBA : Below w1.heap.size w1 wa := by rw [hwa]; exact below_new _ _
        have HV := Lib.hid (HV.out.on hBA)
        have HS := Lib.hid (HS.out.trans (hBA.mono HS.out.size))
        have HG := Lib.hid hG
        have HSZ : Hid (wr.heap.size ≤ g) := Lib.hid (by rw [hg]; exact HSP.out)
        refine HKK.out _ _ (fun _ _ => by first | exact HS.out | (rw [← hwa]; exact HS.out)) ?_
        first | rw [← hwa] | skip
        rw [← hg]
        clear hG hBA hwa hg
        refine wpK_one 4 rfl (by kernel_rfl) (fun K hK => ?_)
        have HKK := Lib.hid hK
        clear hK
        go_wp2_with fail
        refine (fn_val (val_c _) HV.out).mono ?_
        rintro e w2 ⟨v2, rfl, hv, hb⟩
        have HV := Lib.hid hv
        have HS := Lib.hid (HS.out.trans (hb.mono HS.out.size))
        have HG := Lib.hid ((hb.block _ (lt_of_cells HG.out)).trans HG.out)
        clear hv hb
        go_wp2
        refine HKK.out _ _ (fun _ _ => HS.out) ?_
        refine wpK_one 5 rfl (by kernel_rfl) (fun K hK => ?_)
        have HKK := Lib.hid hK
        clear hK
        go_wp2_with fail
        refine (canon_call HV.out).mono ?_
        have HGL := Lib.hid (lt_of_cells HG.out)
        rintro e w3 ⟨A6, c6, A5, c5, rfl, hd, hi, hl, hb⟩
        have HI := Lib.hid hi
        have HD := Lib.hid hd
        have HL := Lib.hid hl
        clear hi hd hl
        have HS := Lib.hid (HS.out.trans (hb.mono HS.out.size))
        have HG := Lib.hid ((hb.block _ (lt_of_cells HG.out)).trans HG.out)
        clear hb
        go_wp2
        refine HKK.out _ _ (fun _ _ => HS.out) ?_
        refine wpK_take0 (v := ?_) (a' := ?_) 6 rfl (by kernel_rfl) (by kernel_rfl) (by kernel_rfl) (by kernel_rfl) (fun _ _ _ h => h) ?_ ?_ ?_
        rotate_left 2
        · refine .inl ⟨by kernel_rfl, ?_⟩; intro wS hS; clear hS; go_simp; with_reducible rfl
        · go_simp; with_reducible rfl
        refine wpK_take0 (v := ?_) (a' := ?_) 7 rfl (by kernel_rfl) (by kernel_rfl) (by kernel_rfl) (by kernel_rfl) (fun _ _ _ h => h) ?_ ?_ ?_
        rotate_left 2
        · refine .inl ⟨by kernel_rfl, ?_⟩; intro wS hS; clear hS; go_simp; with_reducible rfl
        · go_simp; with_reducible rfl
        refine wpK_take0 (v := ?_) (a' := ?_) 8 rfl (by kernel_rfl) (by kernel_rfl) (by kernel_rfl) (by kernel_rfl) (fun _ _ _ h => h) ?_ ?_ ?_
        rotate_left 2
        · refine .inl ⟨by kernel_rfl, ?_⟩; intro wS hS; clear hS; go_simp; with_reducible rfl
        · go_simp; with_reducible rfl
        refine wpK_one 10 rfl (by kernel_rfl) (fun K hK => ?_)
        have HKK := Lib.hid hK
        clear hK
        refine wpList_store_row rfl 25 (.tmp 3) (.tmp 14) rfl _ _ rfl rfl 25 #[.int .i64 0, .int .i64 0, .string ⟨#[]⟩, .slice none 0 0] HG.out (tySizeA _ _ _ _) rfl (one4 _ _ _ _ _ _) ?_
        refine wpList_nil ?_
        refine HKK.out _ _ (fun h => absurd h (by decide)) ?_
        refine wpK_take0 (v := ?_) (a' := ?_) 11 rfl (by kernel_rfl) (by kernel_rfl) (by kernel_rfl) (by kernel_rfl) (fun _ _ _ h => h) ?_ ?_ ?_
        rotate_left 2
        · refine .inl ⟨by kernel_rfl, ?_⟩; intro wS hS; clear hS; go_simp; with_reducible rfl
        · go_simp; with_reducible rfl
        refine wpK_end (by kernel_rfl) ?_ _
        go_wp2
        go_meet
        exact ex2 HB0.out HZ.out HS.out HSZ.out HG.out HD.out (fun b hb => ⟨by have := hb.1; have := HGL.out; omega, hb.2⟩) HI.out (Nat.le_refl _) (fun ad e => by have := HL.out ad e; have := HGL.out; omega) (HR1.out _ HS.out)
    · have HKK := Lib.hid hK
      clear hK
      go_wp2
      obtain ⟨wa, g, hwa, hg⟩ : ∃ wa g, wa = (wr.alloc (.cells #[.int .i64 0, .int .i64 0, .string ⟨#[]⟩, .slice none 0 0] 25)).drew ∧ g = wr.heap.size := ⟨_, _, rfl, rfl⟩
      have hG : wa.heap[g]? = some (.cells #[.int .i64 0, .int .i64 0, .string ⟨#[]⟩, .slice none 0 0] 25 (0, 0)) := by rw [hwa, hg]; exact heap_alloc_new _ _
      have hBA : Below wr.heap.size wr wa := by rw [hwa]; exact below_drew1 (below_new _ _)
      have HS := Lib.hid hBA
      have HG := Lib.hid hG
      have HSZ : Hid (wr.heap.size ≤ g) := Lib.hid (by rw [hg]; exact Nat.le_refl _)
      refine HKK.out _ _ (fun _ _ => by first | exact HS.out | (rw [← hwa]; exact HS.out)) ?_
      first | rw [← hwa] | skip
      subst hg
      clear hG hBA hwa
      refine wpK_one 3 rfl (by kernel_rfl) (fun K hK => ?_)
      have HKK := Lib.hid hK
      clear hK
      go_wp2_with fail
      refine (fn_val (val_a _) (val_c _)).mono ?_
      rintro e w1 ⟨v1, rfl, hv, hb⟩
      have HV := Lib.hid hv
      have HS := Lib.hid (HS.out.trans (hb.mono HS.out.size))
      have HG := Lib.hid ((hb.block _ (lt_of_cells HG.out)).trans HG.out)
      clear hv hb
      go_wp2
      refine HKK.out _ _ (fun _ _ => HS.out) ?_
      refine wpK_one 4 rfl (by kernel_rfl) (fun K hK => ?_)
      have HKK := Lib.hid hK
      clear hK
      go_wp2_with fail
      refine (fn_val (val_c _) HV.out).mono ?_
      rintro e w2 ⟨v2, rfl, hv, hb⟩
      have HV := Lib.hid hv
      have HS := Lib.hid (HS.out.trans (hb.mono HS.out.size))
      have HG := Lib.hid ((hb.block _ (lt_of_cells HG.out)).trans HG.out)
      clear hv hb
      go_wp2
      refine HKK.out _ _ (fun _ _ => HS.out) ?_
      refine wpK_one 5 rfl (by kernel_rfl) (fun K hK => ?_)
      have HKK := Lib.hid hK
      clear hK
      go_wp2_with fail
      refine (canon_call HV.out).mono ?_
      have HGL := Lib.hid (lt_of_cells HG.out)
      rintro e w3 ⟨A6, c6, A5, c5, rfl, hd, hi, hl, hb⟩
      have HI := Lib.hid hi
      have HD := Lib.hid hd
      have HL := Lib.hid hl
      clear hi hd hl
      have HS := Lib.hid (HS.out.trans (hb.mono HS.out.size))
      have HG := Lib.hid ((hb.block _ (lt_of_cells HG.out)).trans HG.out)
      clear hb
      go_wp2
      refine HKK.out _ _ (fun _ _ => HS.out) ?_
      refine wpK_take0 (v := ?_) (a' := ?_) 6 rfl (by kernel_rfl) (by kernel_rfl) (by kernel_rfl) (by kernel_rfl) (fun _ _ _ h => h) ?_ ?_ ?_
      rotate_left 2
      · refine .inl ⟨by kernel_rfl, ?_⟩; intro wS hS; clear hS; go_simp; with_reducible rfl
      · go_simp; with_reducible rfl
      refine wpK_take0 (v := ?_) (a' := ?_) 7 rfl (by kernel_rfl) (by kernel_rfl) (by kernel_rfl) (by kernel_rfl) (fun _ _ _ h => h) ?_ ?_ ?_
      rotate_left 2
      · refine .inl ⟨by kernel_rfl, ?_⟩; intro wS hS; clear hS; go_simp; with_reducible rfl
      · go_simp; with_reducible rfl
      refine wpK_take0 (v := ?_) (a' := ?_) 8 rfl (by kernel_rfl) (by kernel_rfl) (by kernel_rfl) (by kernel_rfl) (fun _ _ _ h => h) ?_ ?_ ?_
      rotate_left 2
      · refine .inl ⟨by kernel_rfl, ?_⟩; intro wS hS; clear hS; go_simp; with_reducible rfl
      · go_simp; with_reducible rfl
      refine wpK_one 10 rfl (by kernel_rfl) (fun K hK => ?_)
      have HKK := Lib.hid hK
      clear hK
      refine wpList_store_row rfl 25 (.tmp 3) (.tmp 14) rfl _ _ rfl rfl 25 #[.int .i64 0, .int .i64 0, .string ⟨#[]⟩, .slice none 0 0] HG.out (tySizeA _ _ _ _) rfl (one4 _ _ _ _ _ _) ?_
      refine wpList_nil ?_
      refine HKK.out _ _ (fun h => absurd h (by decide)) ?_
      refine wpK_take0 (v := ?_) (a' := ?_) 11 rfl (by kernel_rfl) (by kernel_rfl) (by kernel_rfl) (by kernel_rfl) (fun _ _ _ h => h) ?_ ?_ ?_
      rotate_left 2
      · refine .inl ⟨by kernel_rfl, ?_⟩; intro wS hS; clear hS; go_simp; with_reducible rfl
      · go_simp; with_reducible rfl
      refine wpK_end (by kernel_rfl) ?_ _
      go_wp2
      go_meet
      exact ex2 HB0.out HZ.out HS.out HSZ.out HG.out HD.out (fun b hb => ⟨by have := hb.1; have := HGL.out; omega, hb.2⟩) HI.out (Nat.le_refl _) (fun ad e => by have := HL.out ad e; have := HGL.out; omega) (HR1.out _ HS.out)
  case rest =>
    obtain ⟨g, c6, c5, A6, A5, rfl, rfl, hg, hv, hi, hb, ha⟩ := hcut
    obtain ⟨wr, rfl⟩ : ∃ wr : World, wr = wc := ⟨_, rfl⟩
    obtain ⟨ad, rfl, had, hc0⟩ := hi.at_ (k := 0) (by decide)
    obtain ⟨ad', e', _, hc1⟩ := hi.at_ (k := 1) (by decide)
    cases e'
    have HC0 : Hid (∀ W', Below wr.heap.size wr W' → W'.cell? ad = some (.int .i64 2)) := Lib.hid fun W' h => (h.cell had).trans hc0
    have HC1 : Hid (∀ W', Below wr.heap.size wr W' → W'.cell? ⟨ad.block, ad.off + 1, none⟩ = some (.int .i64 0)) := Lib.hid fun W' h => (h.cell (p := ⟨ad.block, ad.off + 1, none⟩) had).trans hc1
    have hgl := lt_of_cells hg
    have hal := lt_of_cells ha
    have HR1 : Hid (∀ W', Below wr.heap.size wr W' → W'.heap[w.heap.size]? = some (.cells #[.int .i64 1, .int .i64 0, .string ⟨#[]⟩, .slice none 0 0] 25 (0, 0))) := Lib.hid fun W' h => (h.block _ hal).trans ha
    have HR3 : Hid (∀ W', Below wr.heap.size wr W' → W'.heap[g]? = some (.cells #[.int .i64 2, .int .i64 0, .string ⟨#[45, 62]⟩, .slice A6 2 c6] 25 (0, 0))) := Lib.hid fun W' h => (h.block _ hgl).trans hg
    have HV3 := Lib.hid hv
    have HB := Lib.hid hb
    clear hg hv hi hb ha hc0 hc1 hgl hal had
    go_wp2
    refine wp_region_K (fun w' => Below wr.heap.size wr w') (fun j => true) (by kernel_rfl) ?_
    have HS := Lib.hid (below_drew1 (Below.refl wr.heap.size wr))
    have HV3 := Lib.hid (HV3.out.on (below_drew1 (Below.refl wr.heap.size wr)))
    refine wpK_take (v := .agg #[.int .i64 2, .int .i64 0, .string ⟨#[45, 62]⟩, .slice A6 2 c6]) (a' := ?_) 0 rfl (by kernel_rfl) (by kernel_rfl) (by kernel_rfl) (by kernel_rfl) (by kernel_rfl) (fun _ _ _ h => h) HS.out ?_ ?_ ?_
    rotate_left 1
    · exact yieldsIf_load_mid (by kernel_rfl) 25 (.tmp 3) rfl (g) 0 (by go_simp) _ _ (fun wS hS => range_row (HR3.out _ hS)) Try.underlying25 rfl (tySize _ _ _ _)
    · go_simp; with_reducible rfl
    refine wpK_take (v := .agg #[.int .i64 1, .int .i64 0, .string ⟨#[]⟩, .slice none 0 0]) (a' := ?_) 1 rfl (by kernel_rfl) (by kernel_rfl) (by kernel_rfl) (by kernel_rfl) (by kernel_rfl) (fun _ _ _ h => h) HS.out ?_ ?_ ?_
    rotate_left 1
    · exact yieldsIf_load_mid (by kernel_rfl) 25 (.tmp 1) rfl (w.heap.size) 0 (by go_simp) _ _ (fun wS hS => range_row (HR1.out _ hS)) Try.underlying25 rfl (tySize _ _ _ _)
    · go_simp; with_reducible rfl
    refine wpK_take0 (v := ?_) (a' := ?_) 2 rfl (by kernel_rfl) (by kernel_rfl) (by kernel_rfl) (by kernel_rfl) (fun _ _ _ h => h) ?_ ?_ ?_
    rotate_left 2
    · refine .inl ⟨by kernel_rfl, ?_⟩; intro wS hS; clear hS; go_simp; with_reducible rfl
    · go_simp; with_reducible rfl
    refine wpK_take (v := .agg #[.int .i64 1, .int .i64 0, .string ⟨#[]⟩, .slice none 0 0]) (a' := ?_) 3 rfl (by kernel_rfl) (by kernel_rfl) (by kernel_rfl) (by kernel_rfl) (by kernel_rfl) (fun _ _ _ h => h) HS.out ?_ ?_ ?_
    rotate_left 1
    · exact yieldsIf_load_mid (by kernel_rfl) 25 (.tmp 1) rfl (w.heap.size) 0 (by go_simp) _ _ (fun wS hS => range_row (HR1.out _ hS)) Try.underlying25 rfl (tySize _ _ _ _)
    · go_simp; with_reducible rfl
    refine wpK_one 4 rfl (by kernel_rfl) (fun K hK => ?_)
    have HKK := Lib.hid hK
    clear hK
    go_wp2_with fail
    refine (fn_val (val_b _) (val_a _)).mono ?_
    rintro e w1 ⟨v1, rfl, hv, hb⟩
    have HS := Lib.hid (HS.out.trans (hb.mono HS.out.size))
    have HV3 := Lib.hid (HV3.out.on hb)
    have HV1 := Lib.hid hv
    clear hb hv
    go_wp2
    refine HKK.out _ _ (fun _ _ => HS.out) ?_
    refine wpK_one 5 rfl (by kernel_rfl) (fun K hK => ?_)
    have HKK := Lib.hid hK
    clear hK
    go_wp2_with fail
    refine (fn_val (val_a _) HV1.out).mono ?_
    rintro e w2 ⟨v2, rfl, hv, hb⟩
    have HS := Lib.hid (HS.out.trans (hb.mono HS.out.size))
    have HV3 := Lib.hid (HV3.out.on hb)
    have HV2 := Lib.hid hv
    clear hb hv
    go_wp2
    refine HKK.out _ _ (fun _ _ => HS.out) ?_
    refine wpK_one 6 rfl (by kernel_rfl) (fun K hK => ?_)
    have HKK := Lib.hid hK
    clear hK
    go_wp2_with fail
    refine (same_self HV3.out HV2.out).mono ?_
    rintro e w3 ⟨rfl, hb⟩
    have HS := Lib.hid (HS.out.trans (hb.mono HS.out.size))
    clear hb
    go_wp2
    refine HKK.out _ _ (fun _ _ => HS.out) ?_
    refine wpK_take0 (v := ?_) (a' := ?_) 7 rfl (by kernel_rfl) (by kernel_rfl) (by kernel_rfl) (by kernel_rfl) (fun _ _ _ h => h) ?_ ?_ ?_
    rotate_left 2
    · refine .inl ⟨by kernel_rfl, ?_⟩; intro wS hS; clear hS; go_simp; with_reducible rfl
    · go_simp; with_reducible rfl
    refine wpK_take0 (v := ?_) (a' := ?_) 8 rfl (by kernel_rfl) (by kernel_rfl) (by kernel_rfl) (by kernel_rfl) (fun _ _ _ h => h) ?_ ?_ ?_
    rotate_left 2
    · refine .inl ⟨by kernel_rfl, ?_⟩; intro wS hS; clear hS; go_simp; with_reducible rfl
    · go_simp; with_reducible rfl
    refine wpK_take0 (v := ?_) (a' := ?_) 9 rfl (by kernel_rfl) (by kernel_rfl) (by kernel_rfl) (by kernel_rfl) (fun _ _ _ h => h) ?_ ?_ ?_
    rotate_left 2
    · refine .inl ⟨by kernel_rfl, ?_⟩; intro wS hS; clear hS; go_simp; with_reducible rfl
    · go_simp; with_reducible rfl
    refine wpK_take0 (v := ?_) (a' := ?_) 10 rfl (by kernel_rfl) (by kernel_rfl) (by kernel_rfl) (by kernel_rfl) (fun _ _ _ h => h) ?_ ?_ ?_
    rotate_left 2
    · refine .inl ⟨by kernel_rfl, ?_⟩; intro wS hS; clear hS; go_simp; with_reducible rfl
    · go_simp; with_reducible rfl
    refine wpK_take0 (v := ?_) (a' := ?_) 11 rfl (by kernel_rfl) (by kernel_rfl) (by kernel_rfl) (by kernel_rfl) (fun _ _ _ h => h) ?_ ?_ ?_
    rotate_left 2
    · refine .inl ⟨by kernel_rfl, ?_⟩; intro wS hS; clear hS; go_simp; with_reducible rfl
    · go_simp; with_reducible rfl
    refine wpK_take0 (v := ?_) (a' := ?_) 12 rfl (by kernel_rfl) (by kernel_rfl) (by kernel_rfl) (by kernel_rfl) (fun _ _ _ h => h) ?_ ?_ ?_
    rotate_left 2
    · refine .inl ⟨by kernel_rfl, ?_⟩; intro wS hS; clear hS; go_simp; with_reducible rfl
    · go_simp; with_reducible rfl
    refine wpK_take0 (v := ?_) (a' := ?_) 13 rfl (by kernel_rfl) (by kernel_rfl) (by kernel_rfl) (by kernel_rfl) (fun _ _ _ h => h) ?_ ?_ ?_
    rotate_left 2
    · refine .inl ⟨by kernel_rfl, ?_⟩; intro wS hS; clear hS; go_simp; with_reducible rfl
    · go_simp; with_reducible rfl
    refine wpK_take0 (v := ?_) (a' := ?_) 14 rfl (by kernel_rfl) (by kernel_rfl) (by kernel_rfl) (by kernel_rfl) (fun _ _ _ h => h) ?_ ?_ ?_
    rotate_left 2
    · refine .inl ⟨by kernel_rfl, ?_⟩; intro wS hS; clear hS; go_simp; with_reducible rfl
    · go_simp; with_reducible rfl
    refine wpK_take (v := ?_) (a' := ?_) 15 rfl (by kernel_rfl) (by kernel_rfl) (by kernel_rfl) (by kernel_rfl) (by kernel_rfl) (fun _ _ _ h => h) HS.out ?_ ?_ ?_
    rotate_left 2
    · refine .inl ⟨by kernel_rfl, ?_⟩; intro wS hS; have q1 := HC0.out _ hS; go_simp; with_reducible rfl
    · go_simp; with_reducible rfl
    refine wpK_take0 (v := ?_) (a' := ?_) 16 rfl (by kernel_rfl) (by kernel_rfl) (by kernel_rfl) (by kernel_rfl) (fun _ _ _ h => h) ?_ ?_ ?_
    rotate_left 2
    · refine .inl ⟨by kernel_rfl, ?_⟩; intro wS hS; clear hS; go_simp; with_reducible rfl
    · go_simp; with_reducible rfl
    refine wpK_take0 (v := ?_) (a' := ?_) 17 rfl (by kernel_rfl) (by kernel_rfl) (by kernel_rfl) (by kernel_rfl) (fun _ _ _ h => h) ?_ ?_ ?_
    rotate_left 2
    · refine .inl ⟨by kernel_rfl, ?_⟩; intro wS hS; clear hS; go_simp; with_reducible rfl
    · go_simp; with_reducible rfl
    refine wpK_take0 (v := ?_) (a' := ?_) 18 rfl (by kernel_rfl) (by kernel_rfl) (by kernel_rfl) (by kernel_rfl) (fun _ _ _ h => h) ?_ ?_ ?_
    rotate_left 2
    · refine .inl ⟨by kernel_rfl, ?_⟩; intro wS hS; clear hS; go_simp; with_reducible rfl
    · go_simp; with_reducible rfl
    refine wpK_take0 (v := ?_) (a' := ?_) 19 rfl (by kernel_rfl) (by kernel_rfl) (by kernel_rfl) (by kernel_rfl) (fun _ _ _ h => h) ?_ ?_ ?_
    rotate_left 2
    · refine .inl ⟨by kernel_rfl, ?_⟩; intro wS hS; clear hS; go_simp; with_reducible rfl
    · go_simp; with_reducible rfl
    refine wpK_take0 (v := ?_) (a' := ?_) 20 rfl (by kernel_rfl) (by kernel_rfl) (by kernel_rfl) (by kernel_rfl) (fun _ _ _ h => h) ?_ ?_ ?_
    rotate_left 2
    · refine .inl ⟨by kernel_rfl, ?_⟩; intro wS hS; clear hS; go_simp; with_reducible rfl
    · go_simp; with_reducible rfl
    refine wpK_take (v := ?_) (a' := ?_) 21 rfl (by kernel_rfl) (by kernel_rfl) (by kernel_rfl) (by kernel_rfl) (by kernel_rfl) (fun _ _ _ h => h) HS.out ?_ ?_ ?_
    rotate_left 2
    · refine .inl ⟨by kernel_rfl, ?_⟩; intro wS hS; have q1 := HC1.out _ hS; go_simp; with_reducible rfl
    · go_simp; with_reducible rfl
    refine wpK_take0 (v := ?_) (a' := ?_) 22 rfl (by kernel_rfl) (by kernel_rfl) (by kernel_rfl) (by kernel_rfl) (fun _ _ _ h => h) ?_ ?_ ?_
    rotate_left 2
    · refine .inl ⟨by kernel_rfl, ?_⟩; intro wS hS; clear hS; go_simp; with_reducible rfl
    · go_simp; with_reducible rfl
    refine wpK_take0 (v := ?_) (a' := ?_) 23 rfl (by kernel_rfl) (by kernel_rfl) (by kernel_rfl) (by kernel_rfl) (fun _ _ _ h => h) ?_ ?_ ?_
    rotate_left 2
    · refine .inl ⟨by kernel_rfl, ?_⟩; intro wS hS; clear hS; go_simp; with_reducible rfl
    · go_simp; with_reducible rfl
    refine wpK_take0 (v := ?_) (a' := ?_) 24 rfl (by kernel_rfl) (by kernel_rfl) (by kernel_rfl) (by kernel_rfl) (fun _ _ _ h => h) ?_ ?_ ?_
    rotate_left 2
    · refine .inl ⟨by kernel_rfl, ?_⟩; intro wS hS; clear hS; go_simp; with_reducible rfl
    · go_simp; with_reducible rfl
    refine wpK_one 25 rfl (by kernel_rfl) (fun K hK => ?_)
    have HKK := Lib.hid hK
    clear hK
    go_wp2_with fail
    refine (of_nil ⟨#[105, 110, 116]⟩ (by decide)).mono ?_
    rintro e w4 ⟨v4, rfl, hv, hb⟩
    have HS := Lib.hid (HS.out.trans (hb.mono HS.out.size))
    have HV4 := Lib.hid hv
    clear hb hv
    go_wp2
    refine HKK.out _ _ (fun _ _ => HS.out) ?_
    refine wpK_one 26 rfl (by kernel_rfl) (fun K hK => ?_)
    have HKK := Lib.hid hK
    clear hK
    go_wp2_with fail
    refine (of_nil ⟨#[105, 110, 116]⟩ (by decide)).mono ?_
    rintro e w5 ⟨v5, rfl, hv, hb⟩
    have HS := Lib.hid (HS.out.trans (hb.mono HS.out.size))
    have HV4 := Lib.hid (HV4.out.on hb)
    have HV5 := Lib.hid hv
    clear hb hv
    go_wp2
    refine HKK.out _ _ (fun _ _ => HS.out) ?_
    refine wpK_one 27 rfl (by kernel_rfl) (fun K hK => ?_)
    have HKK := Lib.hid hK
    clear hK
    go_wp2_with fail
    refine (fn_val HV4.out HV5.out).mono ?_
    rintro e w6 ⟨v6, rfl, hv, hb⟩
    have HS := Lib.hid (HS.out.trans (hb.mono HS.out.size))
    have HV6 := Lib.hid hv
    clear hb hv
    go_wp2
    refine HKK.out _ _ (fun _ _ => HS.out) ?_
    refine wpK_one 28 rfl (by kernel_rfl) (fun K hK => ?_)
    have HKK := Lib.hid hK
    clear hK
    go_wp2_with fail
    refine (size_val HV6.out (by decide)).mono ?_
    rw [show (pre (Tt.mk 2 0 ⟨#[45, 62]⟩ [Tt.mk 2 0 ⟨#[105, 110, 116]⟩ [], Tt.mk 2 0 ⟨#[105, 110, 116]⟩ []])).length = 3 from rfl]; rintro e w7 ⟨rfl, hb⟩
    have HS := Lib.hid (HS.out.trans (hb.mono HS.out.size))
    clear hb
    go_wp2
    refine HKK.out _ _ (fun _ _ => HS.out) ?_
    refine wpK_take0 (v := ?_) (a' := ?_) 29 rfl (by kernel_rfl) (by kernel_rfl) (by kernel_rfl) (by kernel_rfl) (fun _ _ _ h => h) ?_ ?_ ?_
    rotate_left 2
    · refine .inl ⟨by kernel_rfl, ?_⟩; intro wS hS; clear hS; go_simp; with_reducible rfl
    · go_simp; with_reducible rfl
    refine wpK_take0 (v := ?_) (a' := ?_) 30 rfl (by kernel_rfl) (by kernel_rfl) (by kernel_rfl) (by kernel_rfl) (fun _ _ _ h => h) ?_ ?_ ?_
    rotate_left 2
    · refine .inl ⟨by kernel_rfl, ?_⟩; intro wS hS; clear hS; go_simp; with_reducible rfl
    · go_simp; with_reducible rfl
    refine wpK_take0 (v := ?_) (a' := ?_) 31 rfl (by kernel_rfl) (by kernel_rfl) (by kernel_rfl) (by kernel_rfl) (fun _ _ _ h => h) ?_ ?_ ?_
    rotate_left 2
    · refine .inl ⟨by kernel_rfl, ?_⟩; intro wS hS; clear hS; go_simp; with_reducible rfl
    · go_simp; with_reducible rfl
    refine wpK_one 32 rfl (by kernel_rfl) (fun K hK => ?_)
    have HKK := Lib.hid hK
    clear hK
    go_wp2_with fail
    refine (of_nil ⟨#[105, 110, 116]⟩ (by decide)).mono ?_
    rintro e w8 ⟨v8, rfl, hv, hb⟩
    have HS := Lib.hid (HS.out.trans (hb.mono HS.out.size))
    have HV8 := Lib.hid hv
    clear hb hv
    go_wp2
    refine HKK.out _ _ (fun _ _ => HS.out) ?_
    refine wpK_one 33 rfl (by kernel_rfl) (fun K hK => ?_)
    have HKK := Lib.hid hK
    clear hK
    go_wp2_with fail
    refine (right_val HV8.out (by decide) low_int).mono ?_
    rw [show rightT (Tt.mk 2 0 ⟨#[105, 110, 116]⟩ []) = true from right_int]; rintro e w9 ⟨rfl, hb⟩
    have HS := Lib.hid (HS.out.trans (hb.mono HS.out.size))
    clear hb
    go_wp2
    refine HKK.out _ _ (fun _ _ => HS.out) ?_
    refine wpK_take0 (v := ?_) (a' := ?_) 34 rfl (by kernel_rfl) (by kernel_rfl) (by kernel_rfl) (by kernel_rfl) (fun _ _ _ h => h) ?_ ?_ ?_
    rotate_left 2
    · refine .inl ⟨by kernel_rfl, ?_⟩; intro wS hS; clear hS; go_simp; with_reducible rfl
    · go_simp; with_reducible rfl
    refine wpK_take0 (v := ?_) (a' := ?_) 35 rfl (by kernel_rfl) (by kernel_rfl) (by kernel_rfl) (by kernel_rfl) (fun _ _ _ h => h) ?_ ?_ ?_
    rotate_left 2
    · refine .inl ⟨by kernel_rfl, ?_⟩; intro wS hS; clear hS; go_simp; with_reducible rfl
    · go_simp; with_reducible rfl
    refine wpK_one 36 rfl (by kernel_rfl) (fun K hK => ?_)
    have HKK := Lib.hid hK
    clear hK
    go_wp2_with fail
    refine (of_nil ⟨#[114, 101, 102]⟩ (by decide)).mono ?_
    rintro e w10 ⟨v10, rfl, hv, hb⟩
    have HS := Lib.hid (HS.out.trans (hb.mono HS.out.size))
    have HV10 := Lib.hid hv
    clear hb hv
    go_wp2
    refine HKK.out _ _ (fun _ _ => HS.out) ?_
    refine wpK_one 37 rfl (by kernel_rfl) (fun K hK => ?_)
    have HKK := Lib.hid hK
    clear hK
    go_wp2_with fail
    refine (right_val HV10.out (by decide) low_ref).mono ?_
    rw [show rightT (Tt.mk 2 0 ⟨#[114, 101, 102]⟩ []) = false from right_ref]; rintro e w11 ⟨rfl, hb⟩
    have HS := Lib.hid (HS.out.trans (hb.mono HS.out.size))
    clear hb
    go_wp2
    refine HKK.out _ _ (fun _ _ => HS.out) ?_
    refine wpK_take0 (v := ?_) (a' := ?_) 38 rfl (by kernel_rfl) (by kernel_rfl) (by kernel_rfl) (by kernel_rfl) (fun _ _ _ h => h) ?_ ?_ ?_
    rotate_left 2
    · refine .inl ⟨by kernel_rfl, ?_⟩; intro wS hS; clear hS; go_simp; with_reducible rfl
    · go_simp; with_reducible rfl
    refine wpK_take0 (v := ?_) (a' := ?_) 39 rfl (by kernel_rfl) (by kernel_rfl) (by kernel_rfl) (by kernel_rfl) (fun _ _ _ h => h) ?_ ?_ ?_
    rotate_left 2
    · refine .inl ⟨by kernel_rfl, ?_⟩; intro wS hS; clear hS; go_simp; with_reducible rfl
    · go_simp; with_reducible rfl
    refine wpK_take0 (v := ?_) (a' := ?_) 40 rfl (by kernel_rfl) (by kernel_rfl) (by kernel_rfl) (by kernel_rfl) (fun _ _ _ h => h) ?_ ?_ ?_
    rotate_left 2
    · refine .inl ⟨by kernel_rfl, ?_⟩; intro wS hS; clear hS; go_simp; with_reducible rfl
    · go_simp; with_reducible rfl
    refine wpK_end (by kernel_rfl) ?_ _
    go_wp2
    go_ret
    exact ⟨rfl, below_then HB.out HS.out⟩
end Go.Proofs.Ytgdclchpccbifaa
