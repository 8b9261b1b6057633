import Derived.Test.YtoopopjcojphaaaGreatDoorQI
/-
  CONTRACTS OF THE REFERENCE's SCHEMES, III: number.
-/
namespace Go.Proofs.YtoopopjcojphaaaGreatDoor
open Go.ChangeShapes Go.WideShapes Go.ChangeAt Go.RowKit
set_option linter.unusedVariables false
set_option maxRecDepth 100000 in
set_option maxHeartbeats 2000000 in
theorem num_any {vs : List Int} {Av : Option Addr} {cv : Nat} (hvs : vs.length ≤ 1048576) : ∀ (d : Nat) (k n : Int) (s : ByteArray) (l : List Tt) (A : Option Addr) (c : Nat) (w : World) (S : Nat → Prop), (∀ b, S b → b < w.heap.size) → TyRd w S d (.mk k n s l) [.int .i64 k, .int .i64 n, .string s, .slice A l.length c] → IntsAt w w.heap.size Av vs → (∀ u ∈ pre (.mk k n s l), u.kind = 1 → u.num ∈ vs) →
      Calls Tryz.prog 36 #[.agg #[.int .i64 k, .int .i64 n, .string s, .slice A l.length c], .slice Av vs.length cv] w (Made w w.heap.size (rebT (placeF vs) (.mk k n s l))) := by
  intro d
  induction d with
  | zero => intro k n s l A c w S _ h; exact h.elim
  | succ d ih =>
    intro k n s l A c w S hS h hRR hv
    have h00 := h
    obtain ⟨A', c', hcs, hn, hl, hs, hk⟩ := h
    simp only [List.cons.injEq, Value.slice.injEq, and_true, true_and] at hcs
    obtain ⟨rfl, rfl⟩ := hcs
    have HK := Lib.hid hk
    have HS := Lib.hid hS
    have HIH := Lib.hid ih
    have H00 := Lib.hid h00
    have HRR := Lib.hid hRR
    have HV := Lib.hid hv
    clear hk hS ih h00 hRR
    by_cases hk1 : k = 1
    case pos =>
      have e1 : (k == 1) = true := by simpa using hk1
      have hm : n ∈ vs := hv (.mk k n s l) (by rw [pre]; exact List.mem_cons_self ..) hk1
      have hix := List.idxOf_lt_length_of_mem hm
      have HE : Hid (rebT (placeF vs) (.mk k n s l) = vT (vs.idxOf n)) := Lib.hid (by subst hk1; exact reb_var (by unfold placeF; rw [if_pos hm]))
      have HIX := Lib.hid hix
      have HM := Lib.hid hm
      have hb2 : Below w.heap.size w ((w.alloc (.cells #[.int .i64 k, .int .i64 n, .string s, .slice A l.length c] 25)).alloc (.cells #[.int .i64 0, .int .i64 0, .string ⟨#[]⟩, .slice none 0 0] 25)) := (below_new _ _).alloc (by simp) _
      have HB2 := Lib.hid hb2
      have HA2 : Hid ((((w.alloc (.cells #[.int .i64 k, .int .i64 n, .string s, .slice A l.length c] 25)).alloc (.cells #[.int .i64 0, .int .i64 0, .string ⟨#[]⟩, .slice none 0 0] 25))).heap[w.heap.size]? = some (.cells #[.int .i64 k, .int .i64 n, .string s, .slice A l.length c] 25 (0, 0)) ∧ (((w.alloc (.cells #[.int .i64 k, .int .i64 n, .string s, .slice A l.length c] 25)).alloc (.cells #[.int .i64 0, .int .i64 0, .string ⟨#[]⟩, .slice none 0 0] 25))).heap[w.heap.size + 1]? = some (.cells #[.int .i64 0, .int .i64 0, .string ⟨#[]⟩, .slice none 0 0] 25 (0, 0))) := Lib.hid ⟨heap_alloc2_old _ _ _, heap_alloc2_new _ _ _⟩
      clear hk1 hm hix hb2
      rw [HE.out]
      go_enter Tryz.func36, Tryz.ntmps36
      go_wp2
      go_loopw [13] (fun z wr => ∃ j : Nat, j ≤ vs.idxOf n ∧ z = .int .i64 j ∧ Below (((w.alloc (.cells #[.int .i64 k, .int .i64 n, .string s, .slice A l.length c] 25)).alloc (.cells #[.int .i64 0, .int .i64 0, .string ⟨#[]⟩, .slice none 0 0] 25))).heap.size (((w.alloc (.cells #[.int .i64 k, .int .i64 n, .string s, .slice A l.length c] 25)).alloc (.cells #[.int .i64 0, .int .i64 0, .string ⟨#[]⟩, .slice none 0 0] 25))) wr) (fun z _ => vs.length - (intOf z).toNat)
      case atStart => exact ⟨0, Nat.zero_le _, rfl, Below.refl _ _⟩
      case round =>
        obtain ⟨j, hj, rfl, hbw⟩ := hrel
        have HBW := Lib.hid hbw
        have hjl : j < vs.length := by have := HIX.out; omega
        have hw2 : Below w.heap.size w wr := below_then HB2.out hbw
        obtain ⟨ad, hAd, hadb, hcd⟩ := (HRR.out.below hw2).at_ hjl
        subst hAd
        have hx0 := row_on HA2.out.1 hbw
        have hx1 := row_on HA2.out.2 hbw
        have HX := Lib.hid (And.intro hx0 hx1)
        have hlt0 := lt_of_cells hx0
        have hlt1 := lt_of_cells hx1
        have hwz : w.heap.size ≤ wr.heap.size := hw2.size
        have HC : Hid (∀ W', Below wr.heap.size wr W' → W'.cell? (ad.add j) = some (.int .i64 vs[j]) ∧ W'.cell? ⟨w.heap.size, 1, none⟩ = some (.int .i64 n)) := Lib.hid fun W' h => ⟨(h.cell (by rw [block_add]; omega)).trans hcd, by rw [cell_of_row W' _ 1 _ _ _ (row_on HX.out.1 h)]; rfl⟩
        have HW2 := Lib.hid hw2
        clear hbw hw2 hadb hcd hx0 hx1
        by_cases he : vs[j] = n
        · have hji : j = vs.idxOf n := by
            refine Nat.le_antisymm hj (Nat.le_of_not_lt fun h => ?_)
            have := List.not_of_lt_findIdx (p := (· == n)) (xs := vs) (i := j) h
            simp [he] at this
          have HJ := Lib.hid hji
          have q : (vs[j] == n) = true := by simpa using he
          clear he hji
          go_wp2
          refine wp_region_K (fun w' => Below wr.heap.size wr w') (fun j => true) (by kernel_rfl) ?_
          refine wpK_take0 (v := ?_) (a' := ?_) 0 rfl (by kernel_rfl) (by kernel_rfl) (by kernel_rfl) (by kernel_rfl) (fun _ _ _ h => h) ?_ ?_ ?_
          rotate_left 2
          · refine .inl ⟨by kernel_rfl, ?_⟩; intro wS hS; clear hS; go_simp; with_reducible rfl
          · go_simp; with_reducible rfl
          refine wpK_take0 (v := ?_) (a' := ?_) 1 rfl (by kernel_rfl) (by kernel_rfl) (by kernel_rfl) (by kernel_rfl) (fun _ _ _ h => h) ?_ ?_ ?_
          rotate_left 2
          · refine .inl ⟨by kernel_rfl, ?_⟩; intro wS hS; clear hS; go_simp; with_reducible rfl
          · go_simp; with_reducible rfl
          refine wpK_take0 (v := ?_) (a' := ?_) 2 rfl (by kernel_rfl) (by kernel_rfl) (by kernel_rfl) (by kernel_rfl) (fun _ _ _ h => h) ?_ ?_ ?_
          rotate_left 2
          · refine .inl ⟨by kernel_rfl, ?_⟩; intro wS hS; clear hS; go_simp; with_reducible rfl
          · go_simp; with_reducible rfl
          refine wpK_take (v := ?_) (a' := ?_) 3 rfl (by kernel_rfl) (by kernel_rfl) (by kernel_rfl) (by kernel_rfl) (by kernel_rfl) (fun _ _ _ h => h) (below_drew1 (Below.refl _ _)) ?_ ?_ ?_
          rotate_left 2
          · refine .inl ⟨by kernel_rfl, ?_⟩; intro wS hS; have q1 := (HC.out _ hS).1; have q2 := (HC.out _ hS).2; go_simp; with_reducible rfl
          · go_simp; with_reducible rfl
          refine wpK_take0 (v := ?_) (a' := ?_) 4 rfl (by kernel_rfl) (by kernel_rfl) (by kernel_rfl) (by kernel_rfl) (fun _ _ _ h => h) ?_ ?_ ?_
          rotate_left 2
          · refine .inl ⟨by kernel_rfl, ?_⟩; intro wS hS; clear hS; go_simp; with_reducible rfl
          · go_simp; with_reducible rfl
          refine wpK_take (v := ?_) (a' := ?_) 5 rfl (by kernel_rfl) (by kernel_rfl) (by kernel_rfl) (by kernel_rfl) (by kernel_rfl) (fun _ _ _ h => h) (below_drew1 (Below.refl _ _)) ?_ ?_ ?_
          rotate_left 2
          · refine .inl ⟨by kernel_rfl, ?_⟩; intro wS hS; have q1 := (HC.out _ hS).1; have q2 := (HC.out _ hS).2; go_simp; with_reducible rfl
          · go_simp; with_reducible rfl
          refine wpK_take0 (v := ?_) (a' := ?_) 6 rfl (by kernel_rfl) (by kernel_rfl) (by kernel_rfl) (by kernel_rfl) (fun _ _ _ h => h) ?_ ?_ ?_
          rotate_left 2
          · refine .inl ⟨by kernel_rfl, ?_⟩; intro wS hS; clear hS; go_simp; with_reducible rfl
          · go_simp; with_reducible rfl
          refine wpK_end (by kernel_rfl) ?_ _
          have HD := Lib.hid (below_drew1 (Below.refl wr.heap.size wr))
          have HRS := Lib.hid (row_on HX.out.2 HD.out)
          go_wp2_with (refine wpList_store_row rfl 25 _ _ rfl (w.heap.size + 1) _ rfl rfl 25 #[.int .i64 0, .int .i64 0, .string ⟨#[]⟩, .slice none 0 0] HRS.out (tySizeA _ _ _ _) rfl (one4 _ _ _ _ _ _) ?_)
          refine bodyPost_ret (v := .agg #[.int .i64 1, .int .i64 j, .string ⟨#[]⟩, .slice none 0 0]) (results_cell_row rfl _ _ (w.heap.size + 1) 25 _ (0, 0) _ rfl (setRow_row HRS.out) Tryz.underlying25 rfl (tySizeA _ _ _ _)) rfl ?_
          rw [← HJ.out]
          obtain ⟨f1, f2⟩ := boxed_end (w := w) (wr := wr.drew) (b := w.heap.size + 1) (B := w.heap.size + 2) (r := #[.int .i64 1, .int .i64 j, .string ⟨#[]⟩, .slice none 0 0]) (TyR.mk (k := 1) (n := (j : Int)) (s := ⟨#[]⟩) (l := []) (A := none) (c := 0) (by omega) (by simp) (by decide) Rows.nil) (by omega) (by omega) (HW2.out.trans (HD.out.mono hwz))
          exact ⟨none, 0, rfl, f1, f2⟩
        · have q : (vs[j] == n) = false := by simpa using he
          have hji : j + 1 ≤ vs.idxOf n := by
            rcases Nat.lt_or_ge j (vs.idxOf n) with h | h
            · exact h
            · exfalso
              have h1 : j = vs.idxOf n := Nat.le_antisymm hj h
              exact he (by subst h1; exact List.getElem_idxOf _)
          have HJ := Lib.hid hji
          clear he hji
          go_wp2
          refine wp_region_K (fun w' => Below wr.heap.size wr w') (fun j => true) (by kernel_rfl) ?_
          refine wpK_take0 (v := ?_) (a' := ?_) 0 rfl (by kernel_rfl) (by kernel_rfl) (by kernel_rfl) (by kernel_rfl) (fun _ _ _ h => h) ?_ ?_ ?_
          rotate_left 2
          · refine .inl ⟨by kernel_rfl, ?_⟩; intro wS hS; clear hS; go_simp; with_reducible rfl
          · go_simp; with_reducible rfl
          refine wpK_take0 (v := ?_) (a' := ?_) 1 rfl (by kernel_rfl) (by kernel_rfl) (by kernel_rfl) (by kernel_rfl) (fun _ _ _ h => h) ?_ ?_ ?_
          rotate_left 2
          · refine .inl ⟨by kernel_rfl, ?_⟩; intro wS hS; clear hS; go_simp; with_reducible rfl
          · go_simp; with_reducible rfl
          refine wpK_take0 (v := ?_) (a' := ?_) 2 rfl (by kernel_rfl) (by kernel_rfl) (by kernel_rfl) (by kernel_rfl) (fun _ _ _ h => h) ?_ ?_ ?_
          rotate_left 2
          · refine .inl ⟨by kernel_rfl, ?_⟩; intro wS hS; clear hS; go_simp; with_reducible rfl
          · go_simp; with_reducible rfl
          refine wpK_take (v := ?_) (a' := ?_) 3 rfl (by kernel_rfl) (by kernel_rfl) (by kernel_rfl) (by kernel_rfl) (by kernel_rfl) (fun _ _ _ h => h) (below_drew1 (Below.refl _ _)) ?_ ?_ ?_
          rotate_left 2
          · refine .inl ⟨by kernel_rfl, ?_⟩; intro wS hS; have q1 := (HC.out _ hS).1; have q2 := (HC.out _ hS).2; go_simp; with_reducible rfl
          · go_simp; with_reducible rfl
          refine wpK_take0 (v := ?_) (a' := ?_) 4 rfl (by kernel_rfl) (by kernel_rfl) (by kernel_rfl) (by kernel_rfl) (fun _ _ _ h => h) ?_ ?_ ?_
          rotate_left 2
          · refine .inl ⟨by kernel_rfl, ?_⟩; intro wS hS; clear hS; go_simp; with_reducible rfl
          · go_simp; with_reducible rfl
          refine wpK_take (v := ?_) (a' := ?_) 5 rfl (by kernel_rfl) (by kernel_rfl) (by kernel_rfl) (by kernel_rfl) (by kernel_rfl) (fun _ _ _ h => h) (below_drew1 (Below.refl _ _)) ?_ ?_ ?_
          rotate_left 2
          · refine .inl ⟨by kernel_rfl, ?_⟩; intro wS hS; have q1 := (HC.out _ hS).1; have q2 := (HC.out _ hS).2; go_simp; with_reducible rfl
          · go_simp; with_reducible rfl
          refine wpK_take0 (v := ?_) (a' := ?_) 6 rfl (by kernel_rfl) (by kernel_rfl) (by kernel_rfl) (by kernel_rfl) (fun _ _ _ h => h) ?_ ?_ ?_
          rotate_left 2
          · refine .inl ⟨by kernel_rfl, ?_⟩; intro wS hS; clear hS; go_simp; with_reducible rfl
          · go_simp; with_reducible rfl
          refine wpK_end (by kernel_rfl) ?_ _
          have HD := Lib.hid (below_then HBW.out (below_drew1 (Below.refl wr.heap.size wr)))
          go_wp2
          go_roundw
          case rel => exact ⟨j + 1, HJ.out, by go_num, HD.out⟩
          case measure => simp [intOf]; omega

    case neg =>
    clear hv
    have HE := Lib.hid (reb_con (f := placeF vs) (n := n) (s := s) (l := l) hk1)
    have e1 : (k == 1) = false := by simpa using hk1
    clear hk1
    go_enter Tryz.func36, Tryz.ntmps36
    go_wp2
    go_loopw [31] (fun z wr => ∃ (j : Nat) (sv : Value), j ≤ l.length ∧ z = .int .i64 j ∧ Grow (W3 w k n s A l.length c k n s) (w.heap.size + 3) (w.heap.size + 2) k n s ((l.take j).map (rebT (placeF vs))) sv wr) (fun z _ => l.length - (intOf z).toNat)
    case atStart => exact ⟨0, .slice none 0 0, Nat.zero_le _, rfl, W3.start _ _ _ _ _ _ _ _ _ _⟩
    case round =>
      obtain ⟨j, sv, hj, rfl, hat⟩ := hrel
      have HAT := Lib.hid hat
      have hz := hat.size
      clear hat
      have q0 := W3.arg HAT.out (Below.refl _ _)
      by_cases hlt : j < l.length
      · obtain ⟨b, o, cs, rfl, hSb, hr, hd⟩ := HK.out j _ (List.getElem?_eq_getElem hlt)
        have HT : Hid ((l.take (j + 1)).map (rebT (placeF vs)) = (l.take j).map (rebT (placeF vs)) ++ [rebT (placeF vs) l[j]]) := Lib.hid (take_map _ _ _ hlt)
        have HVK : Hid (∀ u ∈ pre l[j], u.kind = 1 → u.num ∈ vs) := Lib.hid fun u hu => HV.out u (by rw [pre]; exact List.mem_cons_of_mem _ (mem_preL (List.getElem_mem hlt) hu))
        generalize l[j] = x at *
        obtain ⟨k2, n2, s2, l2⟩ := x
        cases d with
        | zero => exact hd.elim
        | succ d =>
        have hd0 := hd
        obtain ⟨A2, c2, rfl, _⟩ := hd
        have hwr := HAT.out.below (by omega) (W3.below w k n s (some ⟨b, o, none⟩) l.length c k n s)
        have HR : Hid (∀ W', Below wr.heap.size wr W' → W'.rangeAt b (o + j * 4) [.int .i64 k2, .int .i64 n2, .string s2, .slice A2 l2.length c2]) := Lib.hid fun W' hW => range_same hr (Same.of_below (hwr.trans (hW.mono (by omega))) HS.out) hSb
        have HC : Hid (∀ W', Below wr.heap.size wr W' → W'.cell? ⟨w.heap.size + 2, 3, none⟩ = some sv) := Lib.hid fun W' hW => HAT.out.cell hW
        have HC2 : Hid (∀ W', Below wr.heap.size wr W' → W'.cell? ⟨w.heap.size, 3, none⟩ = some (.slice (some ⟨b, o, none⟩) l.length c)) := Lib.hid fun W' hW => W3.arg HAT.out hW
        have HD : Hid (∀ W', Below wr.heap.size wr W' → Calls Tryz.prog 36 #[.agg #[.int .i64 k2, .int .i64 n2, .string s2, .slice A2 l2.length c2], .slice Av vs.length cv] W' (Made W' W'.heap.size (rebT (placeF vs) (.mk k2 n2 s2 l2)))) := Lib.hid fun W' hW => by
          have h1 : Below w.heap.size w W' := hwr.trans (hW.mono (by omega))
          have h2 := h1.size
          exact HIH.out k2 n2 s2 l2 A2 c2 W' S (fun b hb => by have := HS.out b hb; omega) (hd0.keep (Same.of_below h1 HS.out)) ((HRR.out.below h1).more h2) (HVK.out)
        have HU : Hid (((l.take j).map (rebT (placeF vs))).length = j) := Lib.hid (by rw [List.length_map, List.length_take]; omega)
        clear hr hd0 hwr
        go_wp2
        refine wp_region_K (fun w' => Below wr.heap.size wr w') (fun j => j != 10 && j != 12) (by kernel_rfl) ?_
        refine wpK_take0 (v := ?_) (a' := ?_) 0 rfl (by kernel_rfl) (by kernel_rfl) (by kernel_rfl) (by kernel_rfl) (fun _ _ _ h => h) ?_ ?_ ?_
        rotate_left 2
        · refine .inl ⟨by kernel_rfl, ?_⟩; intro wS hS; clear hS; go_simp; with_reducible rfl
        · go_simp; with_reducible rfl
        refine wpK_take (v := ?_) (a' := ?_) 1 rfl (by kernel_rfl) (by kernel_rfl) (by kernel_rfl) (by kernel_rfl) (by kernel_rfl) (fun _ _ _ h => h) (below_drew1 (Below.refl _ _)) ?_ ?_ ?_
        rotate_left 2
        · refine .inl ⟨by kernel_rfl, ?_⟩; intro wS hS; have q1 := HC.out _ hS; have q2 := HC2.out _ hS; go_simp; with_reducible rfl
        · go_simp; with_reducible rfl
        refine wpK_take0 (v := ?_) (a' := ?_) 2 rfl (by kernel_rfl) (by kernel_rfl) (by kernel_rfl) (by kernel_rfl) (fun _ _ _ h => h) ?_ ?_ ?_
        rotate_left 2
        · refine .inl ⟨by kernel_rfl, ?_⟩; intro wS hS; clear hS; go_simp; with_reducible rfl
        · go_simp; with_reducible rfl
        refine wpK_take (v := ?_) (a' := ?_) 3 rfl (by kernel_rfl) (by kernel_rfl) (by kernel_rfl) (by kernel_rfl) (by kernel_rfl) (fun _ _ _ h => h) (below_drew1 (Below.refl _ _)) ?_ ?_ ?_
        rotate_left 2
        · refine .inl ⟨by kernel_rfl, ?_⟩; intro wS hS; have q1 := HC.out _ hS; have q2 := HC2.out _ hS; go_simp; with_reducible rfl
        · go_simp; with_reducible rfl
        refine wpK_take0 (v := ?_) (a' := ?_) 4 rfl (by kernel_rfl) (by kernel_rfl) (by kernel_rfl) (by kernel_rfl) (fun _ _ _ h => h) ?_ ?_ ?_
        rotate_left 2
        · refine .inl ⟨by kernel_rfl, ?_⟩; intro wS hS; clear hS; go_simp; with_reducible rfl
        · go_simp; with_reducible rfl
        refine wpK_take0 (v := ?_) (a' := ?_) 5 rfl (by kernel_rfl) (by kernel_rfl) (by kernel_rfl) (by kernel_rfl) (fun _ _ _ h => h) ?_ ?_ ?_
        rotate_left 2
        · refine .inl ⟨by kernel_rfl, ?_⟩; intro wS hS; clear hS; go_simp; with_reducible rfl
        · go_simp; with_reducible rfl
        refine wpK_take (v := (.agg #[.int .i64 k2, .int .i64 n2, .string s2, .slice A2 l2.length c2])) (a' := ?_) 6 rfl (by kernel_rfl) (by kernel_rfl) (by kernel_rfl) (by kernel_rfl) (by kernel_rfl) (fun _ _ _ h => h) (below_drew1 (Below.refl _ _)) ?_ ?_ ?_
        rotate_left 1
        · exact yieldsIf_load_mid (by kernel_rfl) 25 (.tmp 39) rfl b (o + j * 4) (by go_simp) _ _ (fun wS hS => HR.out _ hS) Tryz.underlying25 rfl (tySize _ _ _ _)
        · go_simp; with_reducible rfl
        refine wpK_take0 (v := ?_) (a' := ?_) 7 rfl (by kernel_rfl) (by kernel_rfl) (by kernel_rfl) (by kernel_rfl) (fun _ _ _ h => h) ?_ ?_ ?_
        rotate_left 2
        · refine .inl ⟨by kernel_rfl, ?_⟩; intro wS hS; clear hS; go_simp; with_reducible rfl
        · go_simp; with_reducible rfl
        refine wpK_one 8 rfl (by kernel_rfl) (fun K hK => ?_)
        have HKK := Lib.hid hK
        clear hK
        go_wp2_with fail
        refine (HD.out _ (below_drew1 (Below.refl _ _))).mono ?_
        rintro e w1 ⟨A3, c3, rfl, h3, hb1⟩
        have HM := Lib.hid (And.intro h3 hb1)
        have hz1 : wr.heap.size ≤ w1.heap.size := hb1.size
        clear h3 hb1
        go_wp2
        refine HKK.out _ _ (fun _ hS => hS.trans (HM.out.2.mono (by simp))) ?_
        refine wpK_one 9 rfl (by kernel_rfl) (fun K hK => ?_)
        have HKK := Lib.hid hK
        clear hK
        go_wp2
        refine HKK.out _ _ (fun _ hS => hS.trans ((below_new _ _).mono hS.size)) ?_
        refine wpK_one 10 rfl (by kernel_rfl) (fun K hK => ?_)
        have HKK := Lib.hid hK
        clear hK
        have hbw : Below wr.heap.size wr (w1.alloc (.cells #[.int .i64 ((rebT (placeF vs) (Tt.mk k2 n2 s2 l2))).kind, .int .i64 ((rebT (placeF vs) (Tt.mk k2 n2 s2 l2))).num, .string ((rebT (placeF vs) (Tt.mk k2 n2 s2 l2))).name, .slice A3 ((rebT (placeF vs) (Tt.mk k2 n2 s2 l2))).args.length c3] 25)) :=
          (below_drew1 (Below.refl wr.heap.size wr)).trans ((HM.out.2.mono (by simp)).trans ((below_new _ _).mono hz1))
        obtain ⟨rows, hrows⟩ := HAT.out.own.below hbw
        have HRO := Lib.hid hrows
        have HBW := Lib.hid hbw
        obtain ⟨i0, hi, hi0, hi1, hi2⟩ := info_parts tyInfo
        have HI := Lib.hid (And.intro hi (And.intro hi0 (And.intro hi1 hi2)))
        clear hi hi0 hi1 hi2 hrows hbw
        have hus := HU.out
        refine wpList_append_own_at _ rfl (.tmp 35) (.tmp 43) 23 rfl (w.heap.size + 3) 25 i0 (.agg #[.int .i64 0, .int .i64 0, .string ⟨#[]⟩, .slice none 0 0]) 4 56 Tryz.underlying23 HI.out.1 HI.out.2.1 HI.out.2.2.1 HI.out.2.2.2 rfl (by decide)
          sv ((l.take j).map (rebT (placeF vs))).length rows.flatten rfl HRO.out.2.2.1 ⟨w1.heap.size, 0, none⟩ 1 1 [.int .i64 ((rebT (placeF vs) (Tt.mk k2 n2 s2 l2))).kind, .int .i64 ((rebT (placeF vs) (Tt.mk k2 n2 s2 l2))).num, .string ((rebT (placeF vs) (Tt.mk k2 n2 s2 l2))).name, .slice A3 ((rebT (placeF vs) (Tt.mk k2 n2 s2 l2))).args.length c3] rfl rfl ?c1 ?c2 ?c3 ?c4 ?c5 ?_
        case c1 => exact new_cells _ _ _
        case c2 => simp [Value.oneCell']
        case c3 => rw [hus]; unfold maxLen; omega
        case c4 => rw [hus]; omega
        case c5 => simp; omega
        intro v' w2 hown2 hgrow _ hv'
        obtain ⟨A4, n4, c4, rfl⟩ := own_slice hown2
        have HO := Lib.hid (And.intro hown2 (And.intro hgrow hv'))
        clear hown2 hgrow hv' hus
        refine wpList_nil ?_
        refine HKK.out _ _ (fun h => absurd h (by decide)) ?_
        refine wpK_one 11 rfl (by kernel_rfl) (fun K hK => ?_)
        have HKK := Lib.hid hK
        clear hK
        go_wp2
        refine HKK.out _ _ (fun _ hS => hS) ?_
        refine wpK_one 12 rfl (by kernel_rfl) (fun K hK => ?_)
        have HKK := Lib.hid hK
        clear hK
        obtain ⟨e1, e2⟩ := grow_cell HAT.out HBW.out HRO.out HO.out.2.1
        go_wp2
        refine HKK.out _ _ (fun h => absurd h (by decide)) ?_
        refine wpK_end (by kernel_rfl) ?_ _
        have HN := Lib.hid (grow_next HAT.out HBW.out HRO.out HO.out.1 HO.out.2.1 HO.out.2.2 HM.out.1 HM.out.2)
        clear HKK HO HRO HI HBW HD HC HC2 HM e1 e2
        go_wp2
        go_roundw
        case rel => exact ⟨j + 1, _, by omega, by go_num, by rw [HT.out]; exact HN.out⟩
        case measure => simp [intOf]; omega
      · obtain rfl : j = l.length := by omega
        rw [List.take_length] at HAT
        obtain ⟨A5, c5, hsv, _, _⟩ := HAT.out.own.form
        rw [List.length_map] at hsv
        subst hsv
        go_wp2_with (first | (refine wpList_load_row rfl 25 _ rfl (w.heap.size + 2) rfl 25 #[.int .i64 k, .int .i64 n, .string s, .slice A5 l.length c5] (0, 0) _ HAT.out.box Tryz.underlying25 rfl (tySizeA _ _ _ _) ?_) | (refine wpList_store_row rfl 25 _ _ rfl (w.heap.size + 1) _ rfl rfl 25 #[.int .i64 0, .int .i64 0, .string ⟨#[]⟩, .slice none 0 0] (W3.res HAT.out) (tySizeA _ _ _ _) rfl (one4 _ _ _ _ _ _) ?_))
        refine bodyPost_ret (v := .agg #[.int .i64 k, .int .i64 n, .string s, .slice A5 l.length c5]) (results_cell_row rfl _ _ (w.heap.size + 1) 25 _ (0, 0) _ rfl (setRow_row (W3.res HAT.out)) Tryz.underlying25 rfl (tySizeA _ _ _ _)) rfl ?_
        rw [HE.out]
        have hat := HAT.out
        have hlm : (l.map (rebT (placeF vs))).length = l.length := List.length_map _
        rw [← hlm] at hat
        obtain ⟨f1, f2⟩ := W3.made (us := l.map (rebT (placeF vs))) (A' := A5) (c' := c5) (by rw [hlm] at hat ⊢; exact hat) hn (by rw [hlm]; exact hl) hs #[.int .i64 k, .int .i64 n, .string s, .slice A5 l.length c5]
        rw [hlm] at f1
        refine ⟨A5, c5, by simp only [Tt.kind, Tt.num, Tt.name, Tt.args, hlm], ?_, f2⟩
        simp only [Tt.kind, Tt.num, Tt.name, Tt.args, hlm]
        exact f1
end Go.Proofs.YtoopopjcojphaaaGreatDoor
/-
  CONTRACTS OF THE REFERENCE's SCHEMES, IV: Put: types that are handed on are shared with what came in; how many nodes there are then.
-/
namespace Go.Proofs.YtoopopjcojphaaaGreatDoor
open Go.ChangeShapes Go.WideShapes Go.ChangeAt Go.RowKit
set_option linter.unusedVariables false
/-- A type that is read through blocks of L0 too, as they were in W0. -/
def TyL (L0 : Nat → Prop) (W0 : World) : Reading Tt where
  rd w S t cs := ∀ w', Same S w w' → Same L0 W0 w' → TyR.rd w' (fun b => S b ∨ L0 b) t cs
  keep hs h := fun w' h1 h2 => h w' (Same.trans hs h1) h2
  more hS h := fun w' h1 h2 => TyR.more (fun b hb => hb.elim (fun x => .inl (hS b x)) .inr) (h w' (fun b o hb => h1 b o (hS b hb)) h2)
section
variable {L0 : Nat → Prop} {W0 w : World} {S : Nat → Prop} {t : Tt} {cs : List Value}
theorem TyL.of_new (h : TyR.rd w S t cs) : (TyL L0 W0).rd w S t cs := fun w' h1 h2 => TyR.more (fun b hb => .inl hb) (TyR.keep h1 h)
theorem TyL.of_old (h : TyR.rd W0 L0 t cs) : (TyL L0 W0).rd w S t cs := fun w' h1 h2 => TyR.more (fun b hb => .inr hb) (TyR.keep h2 h)
theorem TyL.out (h : (TyL L0 W0).rd w S t cs) (h2 : Same L0 W0 w) : TyR.rd w (fun b => S b ∨ L0 b) t cs := h w (Same.refl _ _) h2
theorem TyL.mk {k n : Int} {s : ByteArray} {l : List Tt} {A : Option Addr} {c : Nat} (h2 : -9223372036854775808 ≤ n ∧ n ≤ 9223372036854775807) (h3 : l.length ≤ 1048576) (h4 : s.size ≤ 1048576) (h : Rows (TyL L0 W0) 4 w S A l) :
    (TyL L0 W0).rd w S (.mk k n s l) [.int .i64 k, .int .i64 n, .string s, .slice A l.length c] := fun w' h1 h2' => TyR.mk h2 h3 h4 fun i a ha => by
  obtain ⟨b, o, cs, e, hS, hr, hd⟩ := h i a ha
  exact ⟨b, o, cs, e, .inl hS, range_same hr h1 hS, hd w' h1 h2'⟩
end
/-- What comes back: a type, in new memory and in that of L0. -/
def MadeL (w : World) (B : Nat) (L0 : Nat → Prop) (W0 : World) (u : Tt) (e : Ending) (w' : World) : Prop :=
  ∃ A c, e = .returned (.agg #[.int .i64 u.kind, .int .i64 u.num, .string u.name, .slice A u.args.length c]) ∧ (TyL L0 W0).rd w' (New B w') u [.int .i64 u.kind, .int .i64 u.num, .string u.name, .slice A u.args.length c] ∧ Below w.heap.size w w'
theorem copy_endL {L0 : Nat → Prop} {W0 w w1 : World} {u : Tt} {cs : List Value} {r : Array Value} (h : (TyL L0 W0).rd w1 (New (w.heap.size + 2) w1) u cs) : (TyL L0 W0).rd (w1.setRow (w.heap.size + 1) r) (New w.heap.size (w1.setRow (w.heap.size + 1) r)) u cs :=
  (TyL L0 W0).more (S := New (w.heap.size + 2) w1) (fun b hb => ⟨by have := hb.1; omega, by rw [size_setRow]; exact hb.2⟩) ((TyL L0 W0).keep (fun b o hb => World.cell?_of_block (a := ⟨b, o, none⟩) (setRow_old (by have := hb.1; show b ≠ _; omega))) h)
/-- A struct in block bx whose slice grows; the blocks below base, but bx, are as in W1. -/
structure GrowL (L0 : Nat → Prop) (W0 W1 : World) (base bx : Nat) (kk n : Int) (s : ByteArray) (us : List Tt) (sv : Value) (wr : World) : Prop where
  box : wr.heap[bx]? = some (.cells #[.int .i64 kk, .int .i64 n, .string s, sv] 25 (0, 0))
  own : Own (TyL L0 W0) 4 wr base 25 sv us
  lt : bx < base
  size : base ≤ wr.heap.size
  wide : W1.heap.size ≤ wr.heap.size
  os : wr.os = W1.os
  tape : wr.tape = W1.tape
  output : wr.output = W1.output
  block : ∀ k, k < base → k ≠ bx → wr.heap[k]? = W1.heap[k]?
section
variable {L0 : Nat → Prop} {W0 : World} {W1 : World} {base bx : Nat} {kk n : Int} {s : ByteArray} {us : List Tt} {sv v' : Value} {wr w1 w2 : World} {rows : List (List Value)}
theorem GrowL.cell {w' : World} (h : GrowL L0 W0 W1 base bx kk n s us sv wr) (hb : Below wr.heap.size wr w') : w'.cell? ⟨bx, 3, none⟩ = some sv := by
  have h1 := h.size
  have h2 := h.lt
  rw [cell_of_row w' bx 3 _ _ _ ((hb.block _ (by omega)).trans h.box)]; rfl
theorem GrowL.below {B : Nat} (h : GrowL L0 W0 W1 base bx kk n s us sv wr) (hB : B ≤ bx) {w : World} (hw : Below B w W1) : Below B w wr :=
  ⟨h.os.trans hw.os, h.tape.trans hw.tape, h.output.trans hw.output, Nat.le_trans hw.size h.wide, fun k hk => (h.block k (by have := h.lt; omega) (by omega)).trans (hw.block k hk)⟩
theorem growL_cell (h : GrowL L0 W0 W1 base bx kk n s us sv wr) (hb : Below wr.heap.size wr w1) (ho : OwnRows (TyL L0 W0) 4 w1 base 25 sv us rows) (hg : w1.grownBy w2 sv.ownBlock) :
    w2.cell? ⟨bx, 3, none⟩ = some sv ∧ w2.frozen? ⟨bx, 3, none⟩ = false := by
  have hz := h.size
  have hl := h.lt
  have hb1 : w2.heap[bx]? = some (.cells #[.int .i64 kk, .int .i64 n, .string s, sv] 25 (0, 0)) := by
    rw [hg.block _ (by have := hb.size; omega) (fun e => by have := (ho.2.2.1.lt _ e.symm).1; omega), hb.block _ (by omega)]; exact h.box
  exact ⟨by rw [cell_of_row w2 _ 3 _ _ _ hb1]; rfl, frozen_of_row w2 _ 3 _ _ hb1⟩
theorem growL_next {u : Tt} {A : Option Addr} {c : Nat} (h : GrowL L0 W0 W1 base bx kk n s us sv wr)
    (hb : Below wr.heap.size wr (w1.alloc (.cells #[.int .i64 u.kind, .int .i64 u.num, .string u.name, .slice A u.args.length c] 25))) (ho : OwnRows (TyL L0 W0) 4 (w1.alloc (.cells #[.int .i64 u.kind, .int .i64 u.num, .string u.name, .slice A u.args.length c] 25)) base 25 sv us rows)
    (hown : w2.ownsRow base 25 4 v' (us.length + 1) (rows.flatten ++ [.int .i64 u.kind, .int .i64 u.num, .string u.name, .slice A u.args.length c])) (hg : (w1.alloc (.cells #[.int .i64 u.kind, .int .i64 u.num, .string u.name, .slice A u.args.length c] 25)).grownBy w2 sv.ownBlock)
    (hv : v'.ownBlock = sv.ownBlock ∨ v'.ownBlock = some (w1.alloc (.cells #[.int .i64 u.kind, .int .i64 u.num, .string u.name, .slice A u.args.length c] 25)).heap.size)
    (hd : (TyL L0 W0).rd w1 (New wr.drew.heap.size w1) u [.int .i64 u.kind, .int .i64 u.num, .string u.name, .slice A u.args.length c]) (hb1 : Below wr.drew.heap.size wr.drew w1) :
    GrowL L0 W0 W1 base bx kk n s (us ++ [u]) v' (w2.setCell ⟨bx, 3, none⟩ v') := by
  have hz := h.size
  have hl := h.lt
  have hz1 : wr.heap.size ≤ w1.heap.size := hb1.size
  have hne : ∀ k, k < base → sv.ownBlock ≠ some k := fun k hk e => by have := (ho.2.2.1.lt _ e).1; omega
  have hlt : ∀ k, sv.ownBlock = some k → k < wr.heap.size := fun k e => by
    obtain ⟨r, hr⟩ := h.own
    exact (hr.2.2.1.lt _ e).2
  generalize hw : w1.alloc (.cells #[.int .i64 u.kind, .int .i64 u.num, .string u.name, .slice A u.args.length c] 25) = wa at *
  have hwz : wa.heap.size = w1.heap.size + 1 := by rw [← hw]; simp
  have hown2 : Own (TyL L0 W0) 4 w2 base 25 v' (us ++ [u]) := by
    refine ho.snoc rfl ?_ hown hg hv
    have hk : Same (New wr.drew.heap.size w1) w1 wa := by rw [← hw]; exact Same.of_below (below_new _ _) fun b hb => hb.2
    refine (TyL L0 W0).more (fun b hb => ⟨?_, ?_, fun e => ?_⟩) ((TyL L0 W0).keep hk hd)
    · have : wr.heap.size ≤ b := hb.1; omega
    · have := hb.2; omega
    · have h1 : wr.heap.size ≤ b := hb.1
      have := hlt _ e; omega
  have hb2 : ∀ k, k < base → w2.heap[k]? = wr.heap[k]? := fun k hk => by rw [hg.block _ (by omega) (fun e => hne k hk e.symm), hb.block _ (by omega)]
  have hbx := (hb2 bx hl).trans h.box
  have hsz : (w2.setCell ⟨bx, 3, none⟩ v').heap.size = w2.heap.size := by simp
  have hgz := hg.size
  refine ⟨?_, hown2.keep (fun k hk _ => heap_setCell_other w2 _ _ _ (by simp; omega)) (by omega), hl, by omega, by have := h.wide; omega, hg.os.trans (hb.os.trans h.os), hg.tape.trans (hb.tape.trans h.tape), hg.output.trans (hb.output.trans h.output), fun k hk hne => ?_⟩
  · rw [heap_setCell_same w2 _ 3 _ _ _ hbx]; rfl
  · rw [heap_setCell_other w2 _ _ _ (by simp; omega), hb2 k hk, h.block k hk hne]
end
theorem W3.startL (L0 : Nat → Prop) (W0 : World) (w : World) (k n : Int) (s : ByteArray) (A : Option Addr) (m c : Nat) (k' n' : Int) (s' : ByteArray) : GrowL L0 W0 (W3 w k n s A m c k' n' s') (w.heap.size + 3) (w.heap.size + 2) k' n' s' [] (.slice none 0 0) (W3 w k n s A m c k' n' s') :=
  ⟨heap_alloc3_new _ _ _ _, Own.nil _ _ _ _ _, by omega, by unfold W3; simp, Nat.le_refl _, rfl, rfl, rfl, fun _ _ _ => rfl⟩
section
variable {L0 : Nat → Prop} {W0 : World} {w wr : World} {k n k' n' : Int} {s s' : ByteArray} {A A' : Option Addr} {m c c' : Nat} {us : List Tt} {sv : Value}
theorem W3.oldL (h : GrowL L0 W0 (W3 w k n s A m c k' n' s') (w.heap.size + 3) (w.heap.size + 2) k' n' s' us sv wr) : wr.heap[w.heap.size]? = some (.cells #[.int .i64 k, .int .i64 n, .string s, .slice A m c] 25 (0, 0)) :=
  (h.block _ (by omega) (by omega)).trans (heap_alloc3_old _ _ _ _)
theorem W3.resL (h : GrowL L0 W0 (W3 w k n s A m c k' n' s') (w.heap.size + 3) (w.heap.size + 2) k' n' s' us sv wr) : wr.heap[w.heap.size + 1]? = some (.cells #[.int .i64 0, .int .i64 0, .string ⟨#[]⟩, .slice none 0 0] 25 (0, 0)) :=
  (h.block _ (by omega) (by omega)).trans (heap_alloc3_mid _ _ _ _)
theorem W3.argL (h : GrowL L0 W0 (W3 w k n s A m c k' n' s') (w.heap.size + 3) (w.heap.size + 2) k' n' s' us sv wr) {w' : World} (hb : Below wr.heap.size wr w') : w'.cell? ⟨w.heap.size, 3, none⟩ = some (.slice A m c) := by
  have hz := h.size
  rw [cell_of_row w' w.heap.size 3 _ _ _ ((hb.block _ (by omega)).trans (W3.oldL h))]; rfl
theorem W3.madeL (h : GrowL L0 W0 (W3 w k n s A m c k' n' s') (w.heap.size + 3) (w.heap.size + 2) k' n' s' us (.slice A' us.length c') wr) (hn : -9223372036854775808 ≤ n' ∧ n' ≤ 9223372036854775807) (hl : us.length ≤ 1048576) (hs : s'.size ≤ 1048576) (r : Array Value) :
    (TyL L0 W0).rd (wr.setRow (w.heap.size + 1) r) (New w.heap.size (wr.setRow (w.heap.size + 1) r)) (.mk k' n' s' us) [.int .i64 k', .int .i64 n', .string s', .slice A' us.length c'] ∧ Below w.heap.size w (wr.setRow (w.heap.size + 1) r) :=
  ⟨copy_endL ((TyL L0 W0).more (S := New (w.heap.size + 3) wr) (fun b hb => ⟨by have := hb.1; omega, hb.2⟩) (TyL.mk hn hl hs h.own.rows)), copy_below (h.below (by omega) (W3.below _ _ _ _ _ _ _ _ _ _)) (Below.refl _ _)⟩
end
set_option maxRecDepth 100000 in
set_option maxHeartbeats 2000000 in
theorem rput10_any {ls : List Tt} {Al : Option Addr} {cl : Nat} (hls0 : ls.length ≤ 1048576) {w0 : World} (hls : Rows TyR 4 w0 (Lt w0.heap.size) Al ls) : ∀ (d : Nat) (k n : Int) (s : ByteArray) (l : List Tt) (A : Option Addr) (c : Nat) (w : World) (S : Nat → Prop), (∀ b, S b → b < w.heap.size) → TyRd w S d (.mk k n s l) [.int .i64 k, .int .i64 n, .string s, .slice A l.length c] → Below w0.heap.size w0 w → formedT (.mk k n s l) = true →
      Calls Tryz.prog 43 #[.agg #[.int .i64 k, .int .i64 n, .string s, .slice A l.length c], .slice Al ls.length cl] w (MadeL w w.heap.size (Lt w0.heap.size) w0 (rebT (putF ls) (.mk k n s l))) := by
  intro d
  induction d with
  | zero => intro k n s l A c w S _ h; exact h.elim
  | succ d ih =>
    intro k n s l A c w S hS h hb0 hfm
    have h00 := h
    obtain ⟨A', c', hcs, hn, hl, hs, hk⟩ := h
    simp only [List.cons.injEq, Value.slice.injEq, and_true, true_and] at hcs
    obtain ⟨rfl, rfl⟩ := hcs
    have HK := Lib.hid hk
    have HS := Lib.hid hS
    have HIH := Lib.hid ih
    have H00 := Lib.hid h00
    have HB0 := Lib.hid hb0
    have HFM := Lib.hid hfm
    clear hk hS ih h00 
    by_cases hk1 : k = 1
    case pos =>
      have e1 : (k == 1) = true := by simpa using hk1
      have HW : Hid (Below w.heap.size w ((w.alloc (.cells #[.int .i64 k, .int .i64 n, .string s, .slice A l.length c] 25)).alloc (.cells #[.int .i64 0, .int .i64 0, .string ⟨#[]⟩, .slice none 0 0] 25))) := Lib.hid ((below_new _ _).alloc (by simp) _)
      obtain ⟨h0, hs0, hl0⟩ := formed_var hfm hk1
      obtain ⟨m, rfl⟩ := Int.eq_ofNat_of_zero_le h0
      clear h0
      by_cases hm : m < ls.length
      · have hm' : (m : Int) < (ls.length : Int) := by omega
        have HE : Hid (rebT (putF ls) (.mk k m s l) = ls[m]) := Lib.hid (by subst hk1; exact reb_var ((putF_in (by omega)).trans (by simp)))
        clear hk1 hs0 hl0
        obtain ⟨b, o, cs, rfl, hSb, hr, hd⟩ := hls.at_ hm
        rw [HE.out]
        generalize ls[m] = x at *
        obtain ⟨k2, n2, s2, l2⟩ := x
        obtain ⟨A2, c2, hcs, _⟩ := TyR.open_ hd
        simp only [Tt.kind, Tt.num, Tt.name, Tt.args] at hcs
        subst hcs
        have HRow : Hid ((((w.alloc (.cells #[.int .i64 k, .int .i64 (m : Int), .string s, .slice A l.length c] 25)).alloc (.cells #[.int .i64 0, .int .i64 0, .string ⟨#[]⟩, .slice none 0 0] 25))).rangeAt b (o + m * 4) [.int .i64 k2, .int .i64 n2, .string s2, .slice A2 l2.length c2]) := Lib.hid (range_same hr (Same.of_below (hb0.trans (HW.out.mono hb0.size)) fun _ h => h) hSb)
        have HDD := Lib.hid hd
        clear hr hd hSb
        go_enter Tryz.func43, Tryz.ntmps43
        have HRS : Hid ((((w.alloc (.cells #[.int .i64 k, .int .i64 (m : Int), .string s, .slice A l.length c] 25)).alloc (.cells #[.int .i64 0, .int .i64 0, .string ⟨#[]⟩, .slice none 0 0] 25))).heap[w.heap.size + 1]? = some (.cells #[.int .i64 0, .int .i64 0, .string ⟨#[]⟩, .slice none 0 0] 25 (0, 0))) := Lib.hid (heap_alloc2_new _ _ _)
        go_wp2_with (first | (refine wpList_load_mid rfl 25 _ rfl b (o + m * 4) rfl _ _ HRow.out Tryz.underlying25 rfl (tySize _ _ _ _) ?_) | (refine wpList_store_row rfl 25 _ _ rfl (w.heap.size + 1) _ rfl rfl 25 #[.int .i64 0, .int .i64 0, .string ⟨#[]⟩, .slice none 0 0] HRS.out (tySizeA _ _ _ _) rfl (one4 _ _ _ _ _ _) ?_))
        refine bodyPost_ret (v := .agg #[.int .i64 k2, .int .i64 n2, .string s2, .slice A2 l2.length c2]) (results_cell_row rfl _ _ (w.heap.size + 1) 25 _ (0, 0) _ rfl (setRow_row HRS.out) Tryz.underlying25 rfl (tySizeA _ _ _ _)) rfl ?_
        exact ⟨A2, c2, rfl, TyL.of_old HDD.out, HW.out.os, HW.out.tape, HW.out.output, by rw [size_setRow]; exact HW.out.size, fun k hk => (setRow_old (by omega)).trans (HW.out.block k hk)⟩
      · have hm' : ¬ ((m : Int) < (ls.length : Int)) := by omega
        have HE : Hid (rebT (putF ls) (.mk k m s l) = .mk k m s l) := Lib.hid (by rw [reb_none (putF_out (by omega)), hl0]; rfl)
        rw [HE.out]
        clear hk1
        subst hl0
        subst hs0
        go_enter Tryz.func43, Tryz.ntmps43
        go_wp2
        refine bodyPost_ret (v := .agg #[.int .i64 k, .int .i64 (m : Int), .string ⟨#[]⟩, .slice A 0 c]) (results_cell_row rfl _ _ (w.heap.size + 1) 25 _ (0, 0) _ rfl (heap_alloc2_new _ _ _) Tryz.underlying25 rfl (tySizeA _ _ _ _)) rfl ?_
        exact ⟨A, c, rfl, TyL.of_new (TyR.mk hn (by simp) (by decide) Rows.nil), (below_new _ _).alloc (by simp) _⟩

    case neg =>
    clear hb0 hfm
    have HE := Lib.hid (reb_con (f := putF ls) (n := n) (s := s) (l := l) hk1)
    have e1 : (k == 1) = false := by simpa using hk1
    clear hk1
    go_enter Tryz.func43, Tryz.ntmps43
    go_wp2
    go_loopw [26] (fun z wr => ∃ (j : Nat) (sv : Value), j ≤ l.length ∧ z = .int .i64 j ∧ GrowL (Lt w0.heap.size) w0 (W3 w k n s A l.length c k n s) (w.heap.size + 3) (w.heap.size + 2) k n s ((l.take j).map (rebT (putF ls))) sv wr) (fun z _ => l.length - (intOf z).toNat)
    case atStart => exact ⟨0, .slice none 0 0, Nat.zero_le _, rfl, W3.startL _ _ _ _ _ _ _ _ _ _ _ _⟩
    case round =>
      obtain ⟨j, sv, hj, rfl, hat⟩ := hrel
      have HAT := Lib.hid hat
      have hz := hat.size
      clear hat
      have q0 := W3.argL HAT.out (Below.refl _ _)
      by_cases hlt : j < l.length
      · obtain ⟨b, o, cs, rfl, hSb, hr, hd⟩ := HK.out j _ (List.getElem?_eq_getElem hlt)
        have HT : Hid ((l.take (j + 1)).map (rebT (putF ls)) = (l.take j).map (rebT (putF ls)) ++ [rebT (putF ls) l[j]]) := Lib.hid (take_map _ _ _ hlt)
        have HVK : Hid (formedT l[j] = true) := Lib.hid ((formed_node HFM.out).2 _ (List.getElem_mem hlt))
        generalize l[j] = x at *
        obtain ⟨k2, n2, s2, l2⟩ := x
        cases d with
        | zero => exact hd.elim
        | succ d =>
        have hd0 := hd
        obtain ⟨A2, c2, rfl, _⟩ := hd
        have hwr := HAT.out.below (by omega) (W3.below w k n s (some ⟨b, o, none⟩) l.length c k n s)
        have HR : Hid (∀ W', Below wr.heap.size wr W' → W'.rangeAt b (o + j * 4) [.int .i64 k2, .int .i64 n2, .string s2, .slice A2 l2.length c2]) := Lib.hid fun W' hW => range_same hr (Same.of_below (hwr.trans (hW.mono (by omega))) HS.out) hSb
        have HC : Hid (∀ W', Below wr.heap.size wr W' → W'.cell? ⟨w.heap.size + 2, 3, none⟩ = some sv) := Lib.hid fun W' hW => HAT.out.cell hW
        have HC2 : Hid (∀ W', Below wr.heap.size wr W' → W'.cell? ⟨w.heap.size, 3, none⟩ = some (.slice (some ⟨b, o, none⟩) l.length c)) := Lib.hid fun W' hW => W3.argL HAT.out hW
        have HD : Hid (∀ W', Below wr.heap.size wr W' → Calls Tryz.prog 43 #[.agg #[.int .i64 k2, .int .i64 n2, .string s2, .slice A2 l2.length c2], .slice Al ls.length cl] W' (MadeL W' W'.heap.size (Lt w0.heap.size) w0 (rebT (putF ls) (.mk k2 n2 s2 l2)))) := Lib.hid fun W' hW => by
          have h1 : Below w.heap.size w W' := hwr.trans (hW.mono (by omega))
          have h2 := h1.size
          exact HIH.out k2 n2 s2 l2 A2 c2 W' S (fun b hb => by have := HS.out b hb; omega) (hd0.keep (Same.of_below h1 HS.out)) (HB0.out.trans (h1.mono HB0.out.size)) (HVK.out)
        have HU : Hid (((l.take j).map (rebT (putF ls))).length = j) := Lib.hid (by rw [List.length_map, List.length_take]; omega)
        clear hr hd0 hwr
        go_wp2
        refine wp_region_K (fun w' => Below wr.heap.size wr w') (fun j => j != 10 && j != 12) (by kernel_rfl) ?_
        refine wpK_take0 (v := ?_) (a' := ?_) 0 rfl (by kernel_rfl) (by kernel_rfl) (by kernel_rfl) (by kernel_rfl) (fun _ _ _ h => h) ?_ ?_ ?_
        rotate_left 2
        · refine .inl ⟨by kernel_rfl, ?_⟩; intro wS hS; clear hS; go_simp; with_reducible rfl
        · go_simp; with_reducible rfl
        refine wpK_take (v := ?_) (a' := ?_) 1 rfl (by kernel_rfl) (by kernel_rfl) (by kernel_rfl) (by kernel_rfl) (by kernel_rfl) (fun _ _ _ h => h) (below_drew1 (Below.refl _ _)) ?_ ?_ ?_
        rotate_left 2
        · refine .inl ⟨by kernel_rfl, ?_⟩; intro wS hS; have q1 := HC.out _ hS; have q2 := HC2.out _ hS; go_simp; with_reducible rfl
        · go_simp; with_reducible rfl
        refine wpK_take0 (v := ?_) (a' := ?_) 2 rfl (by kernel_rfl) (by kernel_rfl) (by kernel_rfl) (by kernel_rfl) (fun _ _ _ h => h) ?_ ?_ ?_
        rotate_left 2
        · refine .inl ⟨by kernel_rfl, ?_⟩; intro wS hS; clear hS; go_simp; with_reducible rfl
        · go_simp; with_reducible rfl
        refine wpK_take (v := ?_) (a' := ?_) 3 rfl (by kernel_rfl) (by kernel_rfl) (by kernel_rfl) (by kernel_rfl) (by kernel_rfl) (fun _ _ _ h => h) (below_drew1 (Below.refl _ _)) ?_ ?_ ?_
        rotate_left 2
        · refine .inl ⟨by kernel_rfl, ?_⟩; intro wS hS; have q1 := HC.out _ hS; have q2 := HC2.out _ hS; go_simp; with_reducible rfl
        · go_simp; with_reducible rfl
        refine wpK_take0 (v := ?_) (a' := ?_) 4 rfl (by kernel_rfl) (by kernel_rfl) (by kernel_rfl) (by kernel_rfl) (fun _ _ _ h => h) ?_ ?_ ?_
        rotate_left 2
        · refine .inl ⟨by kernel_rfl, ?_⟩; intro wS hS; clear hS; go_simp; with_reducible rfl
        · go_simp; with_reducible rfl
        refine wpK_take0 (v := ?_) (a' := ?_) 5 rfl (by kernel_rfl) (by kernel_rfl) (by kernel_rfl) (by kernel_rfl) (fun _ _ _ h => h) ?_ ?_ ?_
        rotate_left 2
        · refine .inl ⟨by kernel_rfl, ?_⟩; intro wS hS; clear hS; go_simp; with_reducible rfl
        · go_simp; with_reducible rfl
        refine wpK_take (v := (.agg #[.int .i64 k2, .int .i64 n2, .string s2, .slice A2 l2.length c2])) (a' := ?_) 6 rfl (by kernel_rfl) (by kernel_rfl) (by kernel_rfl) (by kernel_rfl) (by kernel_rfl) (fun _ _ _ h => h) (below_drew1 (Below.refl _ _)) ?_ ?_ ?_
        rotate_left 1
        · exact yieldsIf_load_mid (by kernel_rfl) 25 (.tmp 34) rfl b (o + j * 4) (by go_simp) _ _ (fun wS hS => HR.out _ hS) Tryz.underlying25 rfl (tySize _ _ _ _)
        · go_simp; with_reducible rfl
        refine wpK_take0 (v := ?_) (a' := ?_) 7 rfl (by kernel_rfl) (by kernel_rfl) (by kernel_rfl) (by kernel_rfl) (fun _ _ _ h => h) ?_ ?_ ?_
        rotate_left 2
        · refine .inl ⟨by kernel_rfl, ?_⟩; intro wS hS; clear hS; go_simp; with_reducible rfl
        · go_simp; with_reducible rfl
        refine wpK_one 8 rfl (by kernel_rfl) (fun K hK => ?_)
        have HKK := Lib.hid hK
        clear hK
        go_wp2_with fail
        refine (HD.out _ (below_drew1 (Below.refl _ _))).mono ?_
        rintro e w1 ⟨A3, c3, rfl, h3, hb1⟩
        have HM := Lib.hid (And.intro h3 hb1)
        have hz1 : wr.heap.size ≤ w1.heap.size := hb1.size
        clear h3 hb1
        go_wp2
        refine HKK.out _ _ (fun _ hS => hS.trans (HM.out.2.mono (by simp))) ?_
        refine wpK_one 9 rfl (by kernel_rfl) (fun K hK => ?_)
        have HKK := Lib.hid hK
        clear hK
        go_wp2
        refine HKK.out _ _ (fun _ hS => hS.trans ((below_new _ _).mono hS.size)) ?_
        refine wpK_one 10 rfl (by kernel_rfl) (fun K hK => ?_)
        have HKK := Lib.hid hK
        clear hK
        have hbw : Below wr.heap.size wr (w1.alloc (.cells #[.int .i64 ((rebT (putF ls) (Tt.mk k2 n2 s2 l2))).kind, .int .i64 ((rebT (putF ls) (Tt.mk k2 n2 s2 l2))).num, .string ((rebT (putF ls) (Tt.mk k2 n2 s2 l2))).name, .slice A3 ((rebT (putF ls) (Tt.mk k2 n2 s2 l2))).args.length c3] 25)) :=
          (below_drew1 (Below.refl wr.heap.size wr)).trans ((HM.out.2.mono (by simp)).trans ((below_new _ _).mono hz1))
        obtain ⟨rows, hrows⟩ := HAT.out.own.below hbw
        have HRO := Lib.hid hrows
        have HBW := Lib.hid hbw
        obtain ⟨i0, hi, hi0, hi1, hi2⟩ := info_parts tyInfo
        have HI := Lib.hid (And.intro hi (And.intro hi0 (And.intro hi1 hi2)))
        clear hi hi0 hi1 hi2 hrows hbw
        have hus := HU.out
        refine wpList_append_own_at _ rfl (.tmp 30) (.tmp 38) 23 rfl (w.heap.size + 3) 25 i0 (.agg #[.int .i64 0, .int .i64 0, .string ⟨#[]⟩, .slice none 0 0]) 4 56 Tryz.underlying23 HI.out.1 HI.out.2.1 HI.out.2.2.1 HI.out.2.2.2 rfl (by decide)
          sv ((l.take j).map (rebT (putF ls))).length rows.flatten rfl HRO.out.2.2.1 ⟨w1.heap.size, 0, none⟩ 1 1 [.int .i64 ((rebT (putF ls) (Tt.mk k2 n2 s2 l2))).kind, .int .i64 ((rebT (putF ls) (Tt.mk k2 n2 s2 l2))).num, .string ((rebT (putF ls) (Tt.mk k2 n2 s2 l2))).name, .slice A3 ((rebT (putF ls) (Tt.mk k2 n2 s2 l2))).args.length c3] rfl rfl ?c1 ?c2 ?c3 ?c4 ?c5 ?_
        case c1 => exact new_cells _ _ _
        case c2 => simp [Value.oneCell']
        case c3 => rw [hus]; unfold maxLen; omega
        case c4 => rw [hus]; omega
        case c5 => simp; omega
        intro v' w2 hown2 hgrow _ hv'
        obtain ⟨A4, n4, c4, rfl⟩ := own_slice hown2
        have HO := Lib.hid (And.intro hown2 (And.intro hgrow hv'))
        clear hown2 hgrow hv' hus
        refine wpList_nil ?_
        refine HKK.out _ _ (fun h => absurd h (by decide)) ?_
        refine wpK_one 11 rfl (by kernel_rfl) (fun K hK => ?_)
        have HKK := Lib.hid hK
        clear hK
        go_wp2
        refine HKK.out _ _ (fun _ hS => hS) ?_
        refine wpK_one 12 rfl (by kernel_rfl) (fun K hK => ?_)
        have HKK := Lib.hid hK
        clear hK
        obtain ⟨e1, e2⟩ := growL_cell HAT.out HBW.out HRO.out HO.out.2.1
        go_wp2
        refine HKK.out _ _ (fun h => absurd h (by decide)) ?_
        refine wpK_end (by kernel_rfl) ?_ _
        have HN := Lib.hid (growL_next HAT.out HBW.out HRO.out HO.out.1 HO.out.2.1 HO.out.2.2 HM.out.1 HM.out.2)
        clear HKK HO HRO HI HBW HD HC HC2 HM e1 e2
        go_wp2
        go_roundw
        case rel => exact ⟨j + 1, _, by omega, by go_num, by rw [HT.out]; exact HN.out⟩
        case measure => simp [intOf]; omega
      · obtain rfl : j = l.length := by omega
        rw [List.take_length] at HAT
        obtain ⟨A5, c5, hsv, _, _⟩ := HAT.out.own.form
        rw [List.length_map] at hsv
        subst hsv
        go_wp2_with (first | (refine wpList_load_row rfl 25 _ rfl (w.heap.size + 2) rfl 25 #[.int .i64 k, .int .i64 n, .string s, .slice A5 l.length c5] (0, 0) _ HAT.out.box Tryz.underlying25 rfl (tySizeA _ _ _ _) ?_) | (refine wpList_store_row rfl 25 _ _ rfl (w.heap.size + 1) _ rfl rfl 25 #[.int .i64 0, .int .i64 0, .string ⟨#[]⟩, .slice none 0 0] (W3.resL HAT.out) (tySizeA _ _ _ _) rfl (one4 _ _ _ _ _ _) ?_))
        refine bodyPost_ret (v := .agg #[.int .i64 k, .int .i64 n, .string s, .slice A5 l.length c5]) (results_cell_row rfl _ _ (w.heap.size + 1) 25 _ (0, 0) _ rfl (setRow_row (W3.resL HAT.out)) Tryz.underlying25 rfl (tySizeA _ _ _ _)) rfl ?_
        rw [HE.out]
        have hat := HAT.out
        have hlm : (l.map (rebT (putF ls))).length = l.length := List.length_map _
        rw [← hlm] at hat
        obtain ⟨f1, f2⟩ := W3.madeL (us := l.map (rebT (putF ls))) (A' := A5) (c' := c5) (by rw [hlm] at hat ⊢; exact hat) hn (by rw [hlm]; exact hl) hs #[.int .i64 k, .int .i64 n, .string s, .slice A5 l.length c5]
        rw [hlm] at f1
        refine ⟨A5, c5, by simp only [Tt.kind, Tt.num, Tt.name, Tt.args, hlm], ?_, f2⟩
        simp only [Tt.kind, Tt.num, Tt.name, Tt.args, hlm]
        exact f1
end Go.Proofs.YtoopopjcojphaaaGreatDoor
/-
  CONTRACTS OF THE REFERENCE's SCHEMES, V: size, Inst.
-/
namespace Go.Proofs.YtoopopjcojphaaaGreatDoor
open Go.ChangeShapes Go.WideShapes Go.ChangeAt Go.RowKit
set_option linter.unusedVariables false
theorem preL_map_take (T : Tt → Tt) (l : List Tt) (k : Nat) (h : k < l.length) : (preL ((l.take (k + 1)).map T)).length = (preL ((l.take k).map T)).length + (pre (T l[k])).length := by
  rw [take_map T l k h, preL_snoc, List.length_append]
theorem preL_map_le (T : Tt → Tt) (l : List Tt) (k : Nat) : (preL ((l.take k).map T)).length ≤ (preL (l.map T)).length := by
  have : l.map T = (l.take k).map T ++ (l.drop k).map T := by rw [← List.map_append, List.take_append_drop]
  rw [this, preL_append, List.length_append]; omega
set_option maxRecDepth 100000 in
set_option maxHeartbeats 2000000 in
theorem rsize10_any {ls : List Tt} {Al : Option Addr} {cl : Nat} (hls0 : ls.length ≤ 1048576) (hsm : ∀ u ∈ ls, (pre u).length ≤ 1048576) : ∀ (d : Nat) (k n : Int) (s : ByteArray) (l : List Tt) (A : Option Addr) (c : Nat) (w : World) (S : Nat → Prop), (∀ b, S b → b < w.heap.size) → TyRd w S d (.mk k n s l) [.int .i64 k, .int .i64 n, .string s, .slice A l.length c] → Rows TyR 4 w (Lt w.heap.size) Al ls → formedT (.mk k n s l) = true → (pre (rebT (putF ls) (.mk k n s l))).length ≤ 1048576 →
      Calls Tryz.prog 42 #[.agg #[.int .i64 k, .int .i64 n, .string s, .slice A l.length c], .slice Al ls.length cl] w fun e w' => e = .returned (.int .i64 ((pre (rebT (putF ls) (.mk k n s l))).length : Nat)) ∧ Below w.heap.size w w' := by
  intro d
  induction d with
  | zero => intro k n s l A c w S _ h; exact h.elim
  | succ d ih =>
    intro k n s l A c w S hS h hls hfm htot
    obtain ⟨A', c', hcs, hn, hl, hs, hk⟩ := h
    simp only [List.cons.injEq, Value.slice.injEq, and_true, true_and] at hcs
    obtain ⟨rfl, rfl⟩ := hcs
    have hb0 := below_new w (.cells #[.int .i64 k, .int .i64 n, .string s, .slice A l.length c] 25)
    have HB := Lib.hid hb0
    by_cases hc : k = 1 ∧ n < ls.length
    · obtain ⟨hk1, hnl⟩ := hc
      have h0 := (formed_var hfm hk1).1
      obtain ⟨m, rfl⟩ := Int.eq_ofNat_of_zero_le h0
      have hm : m < ls.length := by omega
      have HE : Hid (rebT (putF ls) (.mk k m s l) = ls[m]) := Lib.hid (by subst hk1; exact reb_var ((putF_in (by omega)).trans (by simp)))
      have e1 : (k == 1) = true := by simpa using hk1
      rw [HE.out]
      obtain ⟨b, o, k2, n2, s2, m2, A2, c2, hx, rfl, hSb, hr, hv⟩ := rows_val (hls.on hb0) hm
      have hsz := hsm ls[m] (List.getElem_mem hm)
      have HC := Lib.hid (rsize_val hv (by rw [← hx]; exact hsz))
      rw [hx]
      have HR := Lib.hid hr
      clear hr hv hx hk1 hk h0 hls hfm htot hb0 HE hsz
      go_enter Tryz.func42, Tryz.ntmps42
      go_wp2_with (refine wpList_load_mid rfl 25 _ rfl b (o + m * 4) rfl _ _ HR.out Tryz.underlying25 rfl (tySize _ _ _ _) ?_)
      refine HC.out.mono ?_
      rintro e w1 ⟨rfl, hb1⟩
      have HB1 := Lib.hid (below_then HB.out hb1)
      clear hb1
      go_wp2
      go_ret
      exact ⟨rfl, HB1.out⟩
    have HE : Hid (rebT (putF ls) (.mk k n s l) = .mk k n s (l.map (rebT (putF ls)))) := Lib.hid (by
      by_cases hk1 : k = 1
      · exact reb_none (putF_out (by intro h; exact hc ⟨hk1, h.2⟩))
      · exact reb_con hk1)
    have HSUM : Hid ((pre (.mk k n s (l.map (rebT (putF ls))))).length = 1 + (preL (l.map (rebT (putF ls)))).length) := Lib.hid (by rw [pre, List.length_cons]; omega)
    have HK := Lib.hid hk
    have HS := Lib.hid hS
    have HIH := Lib.hid ih
    have HLS := Lib.hid hls
    have HFM := Lib.hid hfm
    have HT : Hid ((preL (l.map (rebT (putF ls)))).length + 1 ≤ 1048576) := Lib.hid (by rw [HE.out] at htot; rw [HSUM.out] at htot; omega)
    rw [HE.out]
    have hcond : k = 1 → ¬ (n < ls.length) := fun h1 h2 => hc ⟨h1, h2⟩
    clear hk hS ih hls hfm hb0 htot hc
    have hways : ((k == 1) = true ∧ ¬ (n < ls.length)) ∨ (k == 1) = false := by
      by_cases hk1 : k = 1
      · exact .inl ⟨by simpa using hk1, hcond hk1⟩
      · exact .inr (by simpa using hk1)
    clear hcond
    rcases hways with ⟨e1, e2⟩ | e1
    all_goals
      go_enter Tryz.func42, Tryz.ntmps42
      go_wp2
      go_loopw [5, 26] (fun y z wr => ∃ j : Nat, j ≤ l.length ∧ y = .int .i64 (((1 + (preL ((l.take j).map (rebT (putF ls)))).length : Nat)) : Int) ∧ z = .int .i64 j ∧ Below w.heap.size w wr ∧ wr.heap[w.heap.size]? = some (.cells #[.int .i64 k, .int .i64 n, .string s, .slice A l.length c] 25 (0, 0))) (fun _ z _ => l.length - (intOf z).toNat)
      case atStart => exact ⟨0, Nat.zero_le _, rfl, rfl, HB.out, heap_alloc_new _ _⟩
      case round =>
        obtain ⟨j, hj, rfl, rfl, hbw, hbx⟩ := hrel
        have HBW := Lib.hid hbw
        have HBX := Lib.hid hbx
        have hz := hbw.size
        have q0 : wr.cell? ⟨w.heap.size, 3, none⟩ = some (.slice A l.length c) := by rw [cell_of_row wr _ 3 _ _ _ hbx]; rfl
        have hltx := lt_of_cells hbx
        clear hbw hbx
        by_cases hlt : j < l.length
        · obtain ⟨b, o, cs, rfl, hSb, hr, hd⟩ := HK.out j _ (List.getElem?_eq_getElem hlt)
          have HN := Lib.hid (preL_map_take (rebT (putF ls)) l j hlt)
          have hle := preL_map_le (rebT (putF ls)) l (j + 1)
          have hfk := (formed_node HFM.out).2 l[j] (List.getElem_mem hlt)
          rw [HN.out] at hle
          have htt := HT.out
          generalize l[j] = x at *
          obtain ⟨k2, n2, s2, l2⟩ := x
          cases d with
          | zero => exact hd.elim
          | succ d =>
          have hd0' := hd
          obtain ⟨A2, c2, rfl, _⟩ := hd
          have HR : Hid (wr.rangeAt b (o + j * 4) [.int .i64 k2, .int .i64 n2, .string s2, .slice A2 l2.length c2]) := Lib.hid (range_same hr (Same.of_below HBW.out HS.out) hSb)
          have HD := Lib.hid (HIH.out k2 n2 s2 l2 A2 c2 wr S (fun b hb => by have := HS.out b hb; omega) (hd0'.keep (Same.of_below HBW.out HS.out)) (HLS.out.on HBW.out) hfk (by omega))
          generalize (pre (rebT (putF ls) (.mk k2 n2 s2 l2))).length = q at *
          generalize (preL ((l.take j).map (rebT (putF ls)))).length = q1 at *
          clear hr hd0' hfk
          go_wp2_with (refine wpList_load_mid rfl 25 _ rfl b (o + j * 4) rfl _ _ HR.out Tryz.underlying25 rfl (tySize _ _ _ _) ?_)
          refine HD.out.mono ?_
          rintro e w1 ⟨rfl, hb1⟩
          have HB1 := Lib.hid (HBW.out.trans (hb1.mono hz))
          have HX1 := Lib.hid (row_on HBX.out hb1)
          clear hb1
          go_wp2
          go_roundw
          case rel => exact ⟨j + 1, by omega, by rw [HN.out]; go_num, by go_num, HB1.out, HX1.out⟩
          case measure => simp [intOf]; omega
        · obtain rfl : j = l.length := by omega
          rw [List.take_length]
          have htt := HT.out
          go_wp2
          go_ret
          exact ⟨ret_int (by rw [HSUM.out]), HBW.out⟩
theorem scSize (x y z u v : Value) : (Tryz.prog.info? 28).map (·.size) = some (#[x, y, z, u, v] : Array Value).size := by kernel_rfl
def instE (v : Int) (t : Tt) (ls : List Tt) : Int := if rightS v t = false ∨ (ls.length : Int) ≠ v then 1 else if ls.all rightT = false then 1 else if 256 < (pre (rebT (putF ls) t)).length then 4 else 0
def instT (v : Int) (t : Tt) (ls : List Tt) : Tt := if instE v t ls = 0 then rebT (putF ls) t else zT
/-- A type and an error come back. -/
def InstPost (w : World) (u : Tt) (er : Int) (e : Ending) (w' : World) : Prop := ∃ x, e = .returned (.tuple #[x, .int .i64 er]) ∧ Val w' u x ∧ Below w.heap.size w w'
theorem below_setRow {w w1 : World} {b : Nat} {r : Array Value} (h : Below w.heap.size w w1) (hb : w.heap.size ≤ b) : Below w.heap.size w (w1.setRow b r) :=
  ⟨h.os, h.tape, h.output, by rw [size_setRow]; exact h.size, fun k hk => (setRow_old (by omega)).trans (h.block k hk)⟩
theorem results_inst10 {tmps : Array Value} {w : World} {g : Nat} {v : Value} {cs : Array Value} {t : TypeId} {fr : Nat × Nat} (hp : tmps.getD 4 undef = .pointer (some ⟨g, 0, none⟩)) (hv : tmps.getD 5 undef = v) (hg : w.heap[g]? = some (.cells cs t fr)) (hi : (Tryz.prog.info? 25).map (·.size) = some cs.size) :
    (results Tryz.f18 tmps).run Tryz.prog w = .ok (.tuple #[.agg cs, v]) w := by
  have hp' : tmps[4]?.getD undef = .pointer (some ⟨g, 0, none⟩) := by simpa using hp
  have hv' : tmps[5]?.getD undef = v := by simpa using hv
  simp [results, Tryz.f18, hp', hv', asAddr, run_loadVar_row w g t 25 _ _ _ hg Tryz.underlying25 rfl hi]
theorem inst_bad {v : Int} {t : Tt} {ls : List Tt} {er : Int} (h : instE v t ls = er) (hne : er ≠ 0) : instT v t ls = zT := by unfold instT; rw [if_neg (by rw [h]; exact hne)]
set_option maxRecDepth 100000 in
set_option maxHeartbeats 4000000 in
theorem rinst_any {w : World} {v : Int} {t : Tt} {x : Value} (h : SVal w v t x) (hsz : (pre t).length ≤ 1048576) {ls : List Tt} {Al : Option Addr} {cl : Nat} (hls0 : ls.length ≤ 1048576) (hsm : ∀ u ∈ ls, (pre u).length ≤ 1048576) (hR : Rows TyR 4 w (Lt w.heap.size) Al ls) (htot : rightS v t = true → ls.all rightT = true → (pre (rebT (putF ls) t)).length ≤ 1048576) :
    Calls Tryz.prog 18 #[x, .slice Al ls.length cl] w (InstPost w (instT v t ls) (instE v t ls)) := by
  have H := Lib.hid h
  have HV64 := Lib.hid h.v64
  obtain ⟨hv0, hv1⟩ := h.v64
  obtain ⟨A, c, rfl, _⟩ := h
  obtain ⟨k, n, s, m⟩ := t
  simp only [Tt.kind, Tt.num, Tt.name, Tt.args] at H ⊢
  obtain ⟨w0, hw0⟩ : ∃ w0, w0 = ((w.alloc (.cells #[.int .i64 v, .int .i64 k, .int .i64 n, .string s, .slice A m.length c] 28)).alloc (.cells #[.int .i64 0, .int .i64 0, .string ⟨#[]⟩, .slice none 0 0] 25)) := ⟨_, rfl⟩
  have hb0 : Below w.heap.size w w0 := by rw [hw0]; exact (below_new _ _).alloc (by simp) _
  have hg0 : w0.heap[w.heap.size]? = some (.cells #[.int .i64 v, .int .i64 k, .int .i64 n, .string s, .slice A m.length c] 28 (0, 0)) := by rw [hw0]; exact heap_alloc2_old _ _ _
  have hz0 : w0.heap[w.heap.size + 1]? = some (.cells #[.int .i64 0, .int .i64 0, .string ⟨#[]⟩, .slice none 0 0] 25 (0, 0)) := by rw [hw0]; exact heap_alloc2_new _ _ _
  have HV := Lib.hid (H.out.on hb0)
  have HRW := Lib.hid (hR.on hb0)
  have HR0 := Lib.hid hR
  have HB := Lib.hid hb0
  have HG0 := Lib.hid hg0
  have HZ0 := Lib.hid hz0
  have HW0 := Lib.hid hw0
  have HRT := Lib.hid (fun W (h : SVal W v (.mk k n s m) (.agg #[.int .i64 v, .int .i64 k, .int .i64 n, .string s, .slice A m.length c])) => rsright_val h hsz)
  have HSM := Lib.hid hsm
  have HTOT := Lib.hid htot
  clear hb0 hg0 hz0 hw0 hR H hsm htot
  by_cases hr : rightS v (.mk k n s m) = true
  case neg =>
    have hr := Bool.eq_false_iff.2 hr
    have HI : Hid (instE v (.mk k n s m) ls = 1) := Lib.hid (by unfold instE; rw [if_pos (.inl hr)])
    rw [hr] at HRT
    clear hr
    go_enter Tryz.func18, Tryz.ntmps18
    go_upto_region 1 with fail
    rw [← HW0.out]
    go_wp2_with (refine wpList_load_row rfl 28 _ rfl w.heap.size rfl 28 _ (0, 0) _ HG0.out Tryz.underlying28 rfl (scSize _ _ _ _ _) ?_)
    refine (HRT.out _ HV.out).mono ?_
    rintro e w1 ⟨rfl, hb1⟩
    have HB1 := Lib.hid (below_then HB.out hb1)
    have HZ1 := Lib.hid (row_on HZ0.out hb1)
    clear hb1
    go_wp2_with (refine wpList_store_row rfl 25 _ _ rfl (w.heap.size + 1) _ rfl rfl 25 #[.int .i64 0, .int .i64 0, .string ⟨#[]⟩, .slice none 0 0] HZ1.out (tySizeA _ _ _ _) rfl (one4 _ _ _ _ _ _) ?_)
    refine bodyPost_ret (v := .tuple #[.agg #[.int .i64 0, .int .i64 0, .string ⟨#[]⟩, .slice none 0 0], .int .i64 1]) (results_inst10 rfl rfl (setRow_row HZ1.out) (tySizeA _ _ _ _)) rfl ?_
    rw [inst_bad HI.out (by decide), HI.out]
    exact ⟨_, rfl, val_leaf _ _ _ _ (by omega) (by decide), below_setRow HB1.out (by omega)⟩
  have HRI := Lib.hid hr
  rw [hr] at HRT
  clear hr
  by_cases hlv : (ls.length : Int) = v
  case neg =>
    have q1 : ((ls.length : Int) == v) = false := by simpa using hlv
    have q2 : ((ls.length : Int) != v) = true := by simpa using hlv
    have HI : Hid (instE v (.mk k n s m) ls = 1) := Lib.hid (by unfold instE; rw [if_pos (.inr hlv)])
    clear hlv
    go_enter Tryz.func18, Tryz.ntmps18
    go_upto_region 1 with fail
    rw [← HW0.out]
    go_wp2_with (refine wpList_load_row rfl 28 _ rfl w.heap.size rfl 28 _ (0, 0) _ HG0.out Tryz.underlying28 rfl (scSize _ _ _ _ _) ?_)
    refine (HRT.out _ HV.out).mono ?_
    rintro e w1 ⟨rfl, hb1⟩
    have c0 : w1.cell? ⟨w.heap.size, 0, none⟩ = some (.int .i64 v) := by rw [cell_of_row w1 _ 0 _ _ _ (row_on HG0.out hb1)]; rfl
    have HB1 := Lib.hid (below_then HB.out hb1)
    have HZ1 := Lib.hid (row_on HZ0.out hb1)
    clear hb1
    go_wp2_with (refine wpList_store_row rfl 25 _ _ rfl (w.heap.size + 1) _ rfl rfl 25 #[.int .i64 0, .int .i64 0, .string ⟨#[]⟩, .slice none 0 0] HZ1.out (tySizeA _ _ _ _) rfl (one4 _ _ _ _ _ _) ?_)
    refine bodyPost_ret (v := .tuple #[.agg #[.int .i64 0, .int .i64 0, .string ⟨#[]⟩, .slice none 0 0], .int .i64 1]) (results_inst10 rfl rfl (setRow_row HZ1.out) (tySizeA _ _ _ _)) rfl ?_
    rw [inst_bad HI.out (by decide), HI.out]
    exact ⟨_, rfl, val_leaf _ _ _ _ (by omega) (by decide), below_setRow HB1.out (by omega)⟩
  have HLV := Lib.hid hlv
  have q1 : ((ls.length : Int) == v) = true := by simpa using hlv
  have q2 : ((ls.length : Int) != v) = false := by simpa using hlv
  clear hlv
  have hFM := (rightS_iff.1 HRI.out).2.2.2
  have HFM := Lib.hid hFM
  clear hFM
  go_enter Tryz.func18, Tryz.ntmps18
  go_upto_region 1 with fail
  rw [← HW0.out]
  go_wp2_with (refine wpList_load_row rfl 28 _ rfl w.heap.size rfl 28 _ (0, 0) _ HG0.out Tryz.underlying28 rfl (scSize _ _ _ _ _) ?_)
  refine (HRT.out _ HV.out).mono ?_
  rintro e w1 ⟨rfl, hb1⟩
  have c0 : w1.cell? ⟨w.heap.size, 0, none⟩ = some (.int .i64 v) := by rw [cell_of_row w1 _ 0 _ _ _ (row_on HG0.out hb1)]; rfl
  have HBa := Lib.hid hb1
  clear hb1
  go_wp2
  go_loopw [20] (fun z wr => ∃ j : Nat, j ≤ ls.length ∧ z = .int .i64 j ∧ (∀ i (h : i < ls.length), i < j → rightT ls[i] = true) ∧ Below w0.heap.size w0 wr) (fun z _ => ls.length - (intOf z).toNat)
  case atStart => exact ⟨0, Nat.zero_le _, rfl, fun i _ h => absurd h (Nat.not_lt_zero _), HBa.out⟩
  case round =>
    obtain ⟨j, hj, rfl, hall, hbw⟩ := hrel
    have HALL := Lib.hid hall
    have HBW := Lib.hid hbw
    clear hall hbw
    by_cases hlt : j < ls.length
    · obtain ⟨b, o, k2, n2, s2, m2, A2, c2, hx, rfl, hSb, hr, hv⟩ := rows_val (HRW.out.on HBW.out) hlt
      have HR := Lib.hid hr
      have hsz2 := HSM.out ls[j] (List.getElem_mem hlt)
      rw [hx] at hsz2
      have HC := Lib.hid (rright_val hv hsz2)
      have HX := Lib.hid hx
      clear hr hv hx hsz2
      cases hq : rightT (.mk k2 n2 s2 m2)
      · rw [hq] at HC
        have HI : Hid (instE v (.mk k n s m) ls = 1) := Lib.hid (by
          unfold instE
          rw [if_neg (by rw [HRI.out, HLV.out]; simp), if_pos]
          rw [List.all_eq_false]
          exact ⟨ls[j], List.getElem_mem hlt, by rw [HX.out, hq]; simp⟩)
        clear hq
        go_wp2_with (refine wpList_load_mid rfl 25 _ rfl b (o + j * 4) rfl _ _ HR.out Tryz.underlying25 rfl (tySize _ _ _ _) ?_)
        refine HC.out.mono ?_
        rintro e w2 ⟨rfl, hb2⟩
        have HB2 := Lib.hid (below_then HB.out (below_then HBW.out hb2))
        have HZ2 := Lib.hid (row_on HZ0.out (below_then HBW.out hb2))
        clear hb2
        go_wp2_with (refine wpList_store_row rfl 25 _ _ rfl (w.heap.size + 1) _ rfl rfl 25 #[.int .i64 0, .int .i64 0, .string ⟨#[]⟩, .slice none 0 0] HZ2.out (tySizeA _ _ _ _) rfl (one4 _ _ _ _ _ _) ?_)
        refine bodyPost_ret (v := .tuple #[.agg #[.int .i64 0, .int .i64 0, .string ⟨#[]⟩, .slice none 0 0], .int .i64 1]) (results_inst10 rfl rfl (setRow_row HZ2.out) (tySizeA _ _ _ _)) rfl ?_
        rw [inst_bad HI.out (by decide), HI.out]
        exact ⟨_, rfl, val_leaf _ _ _ _ (by omega) (by decide), below_setRow HB2.out (by omega)⟩
      · rw [hq] at HC
        have HQ := Lib.hid hq
        clear hq
        go_wp2_with (refine wpList_load_mid rfl 25 _ rfl b (o + j * 4) rfl _ _ HR.out Tryz.underlying25 rfl (tySize _ _ _ _) ?_)
        refine HC.out.mono ?_
        rintro e w2 ⟨rfl, hb2⟩
        have HB2 := Lib.hid (below_then HBW.out hb2)
        clear hb2
        go_wp2
        go_roundw
        case rel => exact ⟨j + 1, by omega, by go_num, fun i hi hij => by
          by_cases e : i = j
          · subst e; rw [HX.out]; exact HQ.out
          · exact HALL.out i hi (by omega), HB2.out⟩
        case measure => simp [intOf]; omega
    · obtain rfl : j = ls.length := by omega
      have hall : ls.all rightT = true := List.all_eq_true.2 fun u hu => by
        obtain ⟨i, hi, he⟩ := List.getElem_of_mem hu
        rw [← he]; exact HALL.out i hi hi
      have htt := HTOT.out HRI.out hall
      have HRG : Hid (∀ W', Below w0.heap.size w0 W' → W'.rangeAt w.heap.size 1 [.int .i64 k, .int .i64 n, .string s, .slice A m.length c]) := Lib.hid fun W' h => range_tail (row_on HG0.out h)
      have hvt := (HV.out.on HBW.out).ty
      obtain ⟨_, _, hvv, d0, hd0⟩ := id hvt
      simp only [Value.agg.injEq, Array.mk.injEq, List.cons.injEq, Value.slice.injEq, and_true, true_and, Tt.kind, Tt.num, Tt.name, Tt.args] at hvv
      obtain ⟨rfl, rfl⟩ := hvv
      have HSZ := Lib.hid (rsize10_any (cl := cl) hls0 HSM.out d0 k n s m _ _ wr _ (fun _ h => h) hd0 (HRW.out.on HBW.out) HFM.out htt)
      have HHD := Lib.hid hd0
      have HE : Hid (instE v (.mk k n s m) ls = if 256 < (pre (rebT (putF ls) (.mk k n s m))).length then 4 else 0) := Lib.hid (by
        unfold instE
        rw [if_neg (by rw [HRI.out, HLV.out]; simp), if_neg (by rw [hall]; simp)])
      have HU : Hid (∀ er, instE v (.mk k n s m) ls = er → er = 0 → instT v (.mk k n s m) ls = rebT (putF ls) (.mk k n s m)) := Lib.hid fun er h h0 => by unfold instT; rw [h, if_pos h0]
      clear hall hvt hd0
      by_cases hq : 256 < (pre (rebT (putF ls) (.mk k n s m))).length
      · have HI : Hid (instE v (.mk k n s m) ls = 4) := Lib.hid (by rw [HE.out, if_pos hq])
        generalize (pre (rebT (putF ls) (.mk k n s m))).length = q at *
        have hq' : (256 : Int) < q := by omega
        go_wp2_with (refine wpList_load_mid rfl 25 _ rfl w.heap.size 1 rfl _ _ (HRG.out _ HBW.out) Tryz.underlying25 rfl (tySize _ _ _ _) ?_)
        refine HSZ.out.mono ?_
        rintro e w2 ⟨rfl, hb2⟩
        have HB2 := Lib.hid (below_then HB.out (below_then HBW.out hb2))
        have HZ2 := Lib.hid (row_on HZ0.out (below_then HBW.out hb2))
        clear hb2
        go_wp2_with (refine wpList_store_row rfl 25 _ _ rfl (w.heap.size + 1) _ rfl rfl 25 #[.int .i64 0, .int .i64 0, .string ⟨#[]⟩, .slice none 0 0] HZ2.out (tySizeA _ _ _ _) rfl (one4 _ _ _ _ _ _) ?_)
        refine bodyPost_ret (v := .tuple #[.agg #[.int .i64 0, .int .i64 0, .string ⟨#[]⟩, .slice none 0 0], .int .i64 4]) (results_inst10 rfl rfl (setRow_row HZ2.out) (tySizeA _ _ _ _)) rfl ?_
        rw [inst_bad HI.out (by decide), HI.out]
        exact ⟨_, rfl, val_leaf _ _ _ _ (by omega) (by decide), below_setRow HB2.out (by omega)⟩
      · have HI : Hid (instE v (.mk k n s m) ls = 0) := Lib.hid (by rw [HE.out, if_neg hq])
        generalize (pre (rebT (putF ls) (.mk k n s m))).length = q at *
        have hq' : ¬ ((256 : Int) < q) := by omega
        go_wp2_with (refine wpList_load_mid rfl 25 _ rfl w.heap.size 1 rfl _ _ (HRG.out _ HBW.out) Tryz.underlying25 rfl (tySize _ _ _ _) ?_)
        refine HSZ.out.mono ?_
        rintro e w2 ⟨rfl, hb2⟩
        have HB2 := Lib.hid (below_then HBW.out hb2)
        have HC := Lib.hid (rput10_any (cl := cl) hls0 HR0.out d0 k n s m _ _ w2 _ (fun _ h => h) (TyRd.more (fun b hb => Nat.lt_of_lt_of_le hb hb2.size) _ _ _ (TyRd.keep (Same.lt hb2) _ _ _ HHD.out)) (below_then HB.out HB2.out) HFM.out)
        clear hb2
        go_wp2_with (refine wpList_load_mid rfl 25 _ rfl w.heap.size 1 rfl _ _ (HRG.out _ HB2.out) Tryz.underlying25 rfl (tySize _ _ _ _) ?_)
        refine HC.out.mono ?_
        rintro e w3 ⟨A6, c6, rfl, h6, h7⟩
        have HB3 := Lib.hid (below_then HB.out (below_then HB2.out h7))
        have HZ3 := Lib.hid (row_on HZ0.out (below_then HB2.out h7))
        have h8 := TyL.out h6 (Same.lt (below_then HB.out (below_then HB2.out h7)))
        have hsz2 := h7.size
        have HN := Lib.hid h8
        have hzz := lt_of_cells HZ0.out
        have hz02 := HB2.out.size
        clear h6 h7 h8
        generalize rebT (putF ls) (.mk k n s m) = T at *
        go_wp2_with (refine wpList_store_row rfl 25 _ _ rfl (w.heap.size + 1) _ rfl rfl 25 #[.int .i64 0, .int .i64 0, .string ⟨#[]⟩, .slice none 0 0] HZ3.out (tySizeA _ _ _ _) rfl (one4 _ _ _ _ _ _) ?_)
        refine bodyPost_ret (v := .tuple #[.agg #[.int .i64 T.kind, .int .i64 T.num, .string T.name, .slice A6 T.args.length c6], .int .i64 0]) (results_inst10 rfl rfl (setRow_row HZ3.out) (tySizeA _ _ _ _)) rfl ?_
        rw [HU.out 0 HI.out rfl, HI.out]
        have hbs := below_setRow (r := #[.int .i64 T.kind, .int .i64 T.num, .string T.name, .slice A6 T.args.length c6]) HB3.out (show w.heap.size ≤ w.heap.size + 1 by omega)
        refine ⟨_, rfl, ⟨A6, c6, rfl, ?_⟩, hbs⟩
        refine TyR.more (S := fun b => New w2.heap.size w3 b ∨ Lt w.heap.size b) (fun b hb => ?_) (TyR.keep (fun b o hb => World.cell?_of_block (a := ⟨b, o, none⟩) (setRow_old ?_)) HN.out)
        · show b < _
          rw [size_setRow]
          rcases hb with hb | hb
          · exact hb.2
          · have h1 : b < w.heap.size := hb
            have := HB3.out.size; omega
        · show b ≠ _
          rcases hb with hb | hb
          · have := hb.1; omega
          · have h1 : b < w.heap.size := hb
            omega
end Go.Proofs.YtoopopjcojphaaaGreatDoor
/-
  CONTRACTS OF THE REFERENCE's SCHEMES, VI: Of.
-/
namespace Go.Proofs.YtoopopjcojphaaaGreatDoor
open Go.ChangeShapes Go.WideShapes Go.ChangeAt Go.RowKit
set_option linter.unusedVariables false
/-- A scheme comes back. -/
def SGave (w : World) (v : Int) (t : Tt) (e : Ending) (w' : World) : Prop := ∃ x, e = .returned x ∧ SVal w' v t x ∧ Below w.heap.size w w'
theorem filt_yes {p : Int → Bool} {vs : List Int} {j : Nat} (h : j < vs.length) (hp : p vs[j] = true) : (vs.take (j + 1)).filter p = (vs.take j).filter p ++ [vs[j]] := by
  rw [List.take_succ_eq_append_getElem h, List.filter_append, List.filter_cons_of_pos hp]; rfl
theorem filt_no {p : Int → Bool} {vs : List Int} {j : Nat} (h : j < vs.length) (hp : p vs[j] = false) : (vs.take (j + 1)).filter p = (vs.take j).filter p := by
  rw [List.take_succ_eq_append_getElem h, List.filter_append, List.filter_cons_of_neg (by rw [hp]; simp)]; simp
theorem filt_len {p : Int → Bool} {vs : List Int} {j : Nat} (h : j < vs.length) : ((vs.take j).filter p).length + 1 ≤ vs.length := by
  have h1 := List.length_filter_le p (vs.take j)
  rw [List.length_take] at h1; omega
theorem two_len (vs : List Int) (p q : Int → Bool) (hd : ∀ x, p x = true → q x = false) (j : Nat) : (vs.filter p).length + ((vs.take j).filter q).length ≤ vs.length := by
  have h1 : ((vs.take j).filter q).length ≤ (vs.filter q).length := by
    have : vs.filter q = (vs.take j).filter q ++ (vs.drop j).filter q := by rw [← List.filter_append, List.take_append_drop]
    rw [this, List.length_append]; omega
  have h2 : ∀ l : List Int, (l.filter p).length + (l.filter q).length ≤ l.length := by
    intro l
    induction l with
    | nil => simp
    | cons x r ih =>
      cases hp : p x with
      | true => rw [List.filter_cons_of_pos hp, List.filter_cons_of_neg (by rw [hd x hp]; simp)]; simp; omega
      | false =>
        rw [List.filter_cons_of_neg (by rw [hp]; simp)]
        cases hq : q x with
        | true => rw [List.filter_cons_of_pos hq]; simp; omega
        | false => rw [List.filter_cons_of_neg (by rw [hq]; simp)]; simp; omega
  have := h2 vs; omega
theorem two_more {p q : Int → Bool} {vs : List Int} (hd : ∀ x, p x = true → q x = false) {j : Nat} (h : j < vs.length) (hq : q vs[j] = true) : (vs.filter p).length + ((vs.take j).filter q).length + 1 ≤ vs.length := by
  have := two_len vs p q hd (j + 1)
  rw [filt_yes h hq, List.length_append] at this
  simp at this; omega
theorem out_in (keep : List Int) (x : Int) (h : outK keep x = true) : inK keep x = false := by unfold outK at h; unfold inK; simpa using h
theorem in_yes {keep : List Int} {x : Int} (h : x ∈ keep) : inK keep x = true := by unfold inK; simpa using h
theorem in_no {keep : List Int} {x : Int} (h : x ∉ keep) : inK keep x = false := by unfold inK; simpa using h
theorem out_yes {keep : List Int} {x : Int} (h : x ∉ keep) : outK keep x = true := by unfold outK; simpa using h
theorem out_no {keep : List Int} {x : Int} (h : x ∈ keep) : outK keep x = false := by unfold outK; simpa using h
theorem old_in {t u : Tt} {keep : List Int} (h : u ∈ pre t) (hk : u.kind = 1) : u.num ∈ oldS t keep := by
  have := vars_mem h hk
  unfold oldS
  by_cases hm : u.num ∈ keep
  · exact List.mem_append_right _ (List.mem_filter.2 ⟨this, in_yes hm⟩)
  · exact List.mem_append_left _ (List.mem_filter.2 ⟨this, out_yes hm⟩)
theorem results_s10 {tmps : Array Value} {w : World} {g : Nat} {cs : Array Value} {t : TypeId} {fr : Nat × Nat} (hp : tmps.getD 4 undef = .pointer (some ⟨g, 0, none⟩)) (hg : w.heap[g]? = some (.cells cs t fr)) (hi : (Tryz.prog.info? 28).map (·.size) = some cs.size) :
    (results Tryz.f12 tmps).run Tryz.prog w = .ok (.agg cs) w := results_cell_row rfl _ _ g t _ _ _ hp hg Tryz.underlying28 rfl hi
theorem one5 (v x y : Int) (s : ByteArray) (A : Option Addr) (n c : Nat) : (#[Value.int .i64 v, .int .i64 x, .int .i64 y, .string s, .slice A n c] : Array Value).all (·.oneCell') = true := by simp [Value.oneCell']
set_option maxRecDepth 100000 in
set_option maxHeartbeats 8000000 in
theorem rof10_any {w : World} {t : Tt} {x : Value} (h : Val w t x) (hsz : (pre t).length ≤ 1048576) {keep : List Int} {Ak : Option Addr} {ck : Nat} (hkl : keep.length ≤ 1048576) (hK : IntsAt w w.heap.size Ak keep) :
    Calls Tryz.prog 12 #[x, .slice Ak keep.length ck] w (SGave w (ofV t keep) (ofT t keep)) := by
  have H := Lib.hid h
  obtain ⟨A, c, rfl, _⟩ := h
  obtain ⟨k, n, s, l⟩ := t
  simp only [Tt.kind, Tt.num, Tt.name, Tt.args] at H ⊢
  obtain ⟨w0, hw0⟩ : ∃ w0, w0 = ((w.alloc (.cells #[.int .i64 k, .int .i64 n, .string s, .slice A l.length c] 25)).alloc (.cells #[.int .i64 0, .int .i64 0, .int .i64 0, .string ⟨#[]⟩, .slice none 0 0] 28)) := ⟨_, rfl⟩
  have hb0 : Below w.heap.size w w0 := by rw [hw0]; exact (below_new _ _).alloc (by simp) _
  have hg0 : w0.heap[w.heap.size]? = some (.cells #[.int .i64 k, .int .i64 n, .string s, .slice A l.length c] 25 (0, 0)) := by rw [hw0]; exact heap_alloc2_old _ _ _
  have hz0 : w0.heap[w.heap.size + 1]? = some (.cells #[.int .i64 0, .int .i64 0, .int .i64 0, .string ⟨#[]⟩, .slice none 0 0] 28 (0, 0)) := by rw [hw0]; exact heap_alloc2_new _ _ _
  have HT := Lib.hid (H.out.on hb0)
  have HKE := Lib.hid ((hK.below hb0).more hb0.size)
  have HB := Lib.hid hb0
  have HG0 := Lib.hid hg0
  have HZ0 := Lib.hid hz0
  have HW0 := Lib.hid hw0
  have HSZ := Lib.hid hsz
  have HRT := Lib.hid (fun W (h : Val W (.mk k n s l) (.agg #[.int .i64 k, .int .i64 n, .string s, .slice A l.length c])) => rright_val h hsz)
  clear hb0 hg0 hz0 hw0 hK H hsz
  cases hr : rightT (.mk k n s l)
  case false =>
    have hr' : ¬ rightT' (.mk k n s l) = true := by rw [← right_same, hr]; simp
    have HI : Hid (ofV (.mk k n s l) keep = 0 ∧ ofT (.mk k n s l) keep = zT) := Lib.hid ⟨if_neg hr', if_neg hr'⟩
    rw [hr] at HRT
    clear hr hr'
    go_enter Tryz.func12, Tryz.ntmps12
    go_upto_region 1 with fail
    rw [← HW0.out]
    go_wp2_with (refine wpList_load_row rfl 25 _ rfl w.heap.size rfl 25 _ (0, 0) _ HG0.out Tryz.underlying25 rfl (tySizeA _ _ _ _) ?_)
    refine (HRT.out _ HT.out).mono ?_
    rintro e w1 ⟨rfl, hb1⟩
    have HB1 := Lib.hid (below_then HB.out hb1)
    have HZ1 := Lib.hid (row_on HZ0.out hb1)
    clear hb1
    go_wp2_with (refine wpList_store_row rfl 28 _ _ rfl (w.heap.size + 1) _ rfl rfl 28 #[.int .i64 0, .int .i64 0, .int .i64 0, .string ⟨#[]⟩, .slice none 0 0] HZ1.out (scSize _ _ _ _ _) rfl (one5 _ _ _ _ _ _ _) ?_)
    refine bodyPost_ret (v := .agg #[.int .i64 0, .int .i64 0, .int .i64 0, .string ⟨#[]⟩, .slice none 0 0]) (results_s10 rfl (setRow_row HZ1.out) (scSize _ _ _ _ _)) rfl ?_
    rw [HI.out.1, HI.out.2]
    exact ⟨_, rfl, ⟨none, 0, rfl, TyR.mk (k := 0) (n := 0) (s := ⟨#[]⟩) (l := []) (by omega) (by simp) (by decide) Rows.nil, by omega⟩, below_setRow HB1.out (by omega)⟩
  case true =>
    have hr' : rightT' (.mk k n s l) = true := hr
    have HI : Hid (ofV (.mk k n s l) keep = (((varsT (.mk k n s l)).filter (outK keep)).length : Nat) ∧ ofT (.mk k n s l) keep = rebT (placeF (oldS (.mk k n s l) keep)) (.mk k n s l)) := Lib.hid ⟨if_pos hr', if_pos hr'⟩
    have HOLD : Hid (oldS (.mk k n s l) keep = (varsT (.mk k n s l)).filter (outK keep) ++ (varsT (.mk k n s l)).filter (inK keep)) := Lib.hid rfl
    have HIN := Lib.hid (fun (u : Tt) (hu : u ∈ pre (.mk k n s l)) (hk : u.kind = 1) => old_in (keep := keep) hu hk)
    rw [hr] at HRT
    have hvl : (varsT (.mk k n s l)).length ≤ 1048576 := Nat.le_trans (vars_le _) HSZ.out
    generalize oldS (.mk k n s l) keep = old at *
    have HVR := Lib.hid (fun (W : World) (d : Nat) (h : TyRd W (Lt W.heap.size) d (.mk k n s l) [.int .i64 k, .int .i64 n, .string s, .slice A l.length c]) => rvars_any d k n s l A c W _ (fun _ h => h) HSZ.out h)
    generalize varsT (.mk k n s l) = vs at *
    clear hr hr'
    have HNUM := Lib.hid (fun (hvs : old.length ≤ 1048576) (W : World) (d : Nat) (h : TyRd W (Lt W.heap.size) d (.mk k n s l) [.int .i64 k, .int .i64 n, .string s, .slice A l.length c]) (Av : Option Addr) (cv : Nat) (hA : IntsAt W W.heap.size Av old) => num_any (cv := cv) hvs d k n s l A c W _ (fun _ h => h) h hA (fun u hu hk => HIN.out u hu hk))
    go_enter Tryz.func12, Tryz.ntmps12
    go_upto_region 1 with fail
    rw [← HW0.out]
    go_wp2_with (refine wpList_load_row rfl 25 _ rfl w.heap.size rfl 25 _ (0, 0) _ HG0.out Tryz.underlying25 rfl (tySizeA _ _ _ _) ?_)
    refine (HRT.out _ HT.out).mono ?_
    rintro e wa ⟨rfl, hba⟩
    have HBA := Lib.hid hba
    have HTA := Lib.hid (HT.out.on hba)
    have HGA := Lib.hid (row_on HG0.out hba)
    clear hba
    obtain ⟨_, _, hvv, d0, hd0⟩ := id HTA.out
    simp only [Value.agg.injEq, Array.mk.injEq, List.cons.injEq, Value.slice.injEq, and_true, true_and, Tt.kind, Tt.num, Tt.name, Tt.args] at hvv
    obtain ⟨rfl, rfl⟩ := hvv
    have HVV := Lib.hid (HVR.out wa d0 hd0)
    have HD0 := Lib.hid hd0
    clear hd0
    go_wp2_with (refine wpList_load_row rfl 25 _ rfl w.heap.size rfl 25 _ (0, 0) _ HGA.out Tryz.underlying25 rfl (tySizeA _ _ _ _) ?_)
    refine HVV.out.mono ?_
    rintro e w1 ⟨A1, c1, rfl, hi1, hc1, hc2, _, hb1⟩
    have HB1 := Lib.hid (below_then HBA.out hb1)
    have HI1 := Lib.hid hi1
    have HG1 := Lib.hid (row_on HGA.out hb1)
    have hz01 := HB1.out.size
    have HKE1 := Lib.hid ((HKE.out.below HB1.out).more HB1.out.size)
    have HD1 := Lib.hid (TyRd.more (fun b hb => Nat.lt_of_lt_of_le hb hb1.size) _ _ _ (TyRd.keep (Same.lt hb1) _ _ _ HD0.out))
    have HHAS := Lib.hid (fun (W : World) (x : Int) (h : Below w1.heap.size w1 W) => has_any keep x _ ck hkl W _ (HKE1.out.below h))
    clear hi1 hb1 hc1 hc2
    go_wp2
    go_loopw [6, 18] (fun v z wr => ∃ j : Nat, j ≤ vs.length ∧ z = .int .i64 j ∧ VarAt w1 w1.heap.size ((vs.take j).filter (outK keep)) v wr) (fun _ z _ => vs.length - (intOf z).toNat)
    case atStart => exact ⟨0, Nat.zero_le _, rfl, World.ownsRow_nil _ _ _ _, Below.refl _ _⟩
    case round =>
      obtain ⟨j, hj, rfl, hat⟩ := hrel
      have HAT := Lib.hid hat
      obtain ⟨A5, c5, hv⟩ := own_form hat.own
      have hwr : w1.heap.size ≤ wr.heap.size := hat.below.size
      have HIJ := Lib.hid (HI1.out.below hat.below)
      clear hat
      by_cases hlt : j < vs.length
      · obtain ⟨ad, hAd, hadb, hcd⟩ := HIJ.out.at_ hlt
        subst hAd
        have HH := Lib.hid (HHAS.out wr vs[j] HAT.out.below)
        by_cases hm : vs[j] ∈ keep
        · rw [decide_eq_true hm] at HH
          subst hv
          have HF := Lib.hid (filt_no (p := outK keep) hlt (out_no hm))
          clear hm
          go_wp2_with (go_at_call 35; refine HH.out.mono ?_; rintro e w' ⟨rfl, rfl⟩)
          go_roundw
          case rel => exact ⟨j + 1, by omega, by go_num, by rw [HF.out]; exact HAT.out⟩
          case measure => simp [intOf]; omega
        · rw [decide_eq_false hm] at HH
          have hvl1 : ((vs.take j).filter (outK keep)).length + 1 ≤ vs.length := filt_len hlt
          have HF := Lib.hid (filt_yes (p := outK keep) hlt (out_yes hm))
          generalize vs[j] = xj at *
          generalize hcur : ((vs.take j).filter (outK keep)) = cu at *
          have hcl : cu.length + 1 ≤ 1048576 := by omega
          have HCU := Lib.hid hcur
          clear hcur hm
          subst hv
          obtain ⟨i0, hi, hi0, hi1, hi2⟩ := info_parts intInfo
          have HI0 := Lib.hid (And.intro hi (And.intro hi0 (And.intro hi1 hi2)))
          clear hi hi0 hi1 hi2
          have HO := Lib.hid (HAT.out.own.alloc (.cells #[.int .i64 xj] 3))
          go_wp2_with (first
            | (go_at_call 35; refine HH.out.mono ?_; rintro e w' ⟨rfl, rfl⟩)
            | (at_builtin; refine wpList_append_own_at _ rfl (.tmp 28) (.tmp 33) 26 rfl w1.heap.size 3 i0 (.int .i64 0) 1 8 Tryz.underlying26 HI0.out.1 HI0.out.2.1 HI0.out.2.2.1 HI0.out.2.2.2 rfl (by decide) (.slice A5 cu.length c5) cu.length (cells cu) rfl HO.out ⟨wr.heap.size, 0, none⟩ 1 1 [.int .i64 xj] rfl rfl ?c1 ?c2 ?c3 ?c4 ?c5 ?_))
          case c1 => exact new_cells wr [.int .i64 xj] 3
          case c2 => simp [Value.oneCell']
          case c3 => unfold maxLen; omega
          case c4 => omega
          case c5 => simp; omega
          intro v' w2 hown2 hgrow _ _
          obtain ⟨A4, n4, c4, rfl⟩ := own_slice hown2
          have HX := Lib.hid (And.intro hown2 hgrow)
          clear hown2 hgrow
          go_wp2
          go_roundw
          case rel => exact ⟨j + 1, by omega, by go_num, by rw [HF.out]; exact var_next HAT.out HX.out.1 HX.out.2⟩
          case measure => simp [intOf]; omega
      · obtain rfl : j = vs.length := by omega
        rw [List.take_length] at HAT hv
        subst hv
        clear hlt hj
        go_wp2
        go_loopw [6, 40] (fun v z wr => ∃ j : Nat, j ≤ vs.length ∧ z = .int .i64 j ∧ VarAt w1 w1.heap.size (vs.filter (outK keep) ++ (vs.take j).filter (inK keep)) v wr) (fun _ z _ => vs.length - (intOf z).toNat)
        case atStart => exact ⟨0, Nat.zero_le _, rfl, by simpa using HAT.out⟩
        case round =>
          obtain ⟨j, hj, rfl, hat⟩ := hrel
          have HAT := Lib.hid hat
          obtain ⟨A5, c5, hv⟩ := own_form hat.own
          have hwr : w1.heap.size ≤ wr.heap.size := hat.below.size
          have HIJ := Lib.hid (HI1.out.below hat.below)
          clear hat
          by_cases hlt : j < vs.length
          · obtain ⟨ad, hAd, hadb, hcd⟩ := HIJ.out.at_ hlt
            subst hAd
            have HH := Lib.hid (HHAS.out wr vs[j] HAT.out.below)
            by_cases hm : vs[j] ∈ keep
            · rw [decide_eq_true hm] at HH
              have hvl1 : (vs.filter (outK keep)).length + ((vs.take j).filter (inK keep)).length + 1 ≤ vs.length := two_more (out_in keep) hlt (in_yes hm)
              have HF := Lib.hid (filt_yes (p := inK keep) hlt (in_yes hm))
              generalize vs[j] = xj at *
              generalize hcur : (vs.filter (outK keep) ++ (vs.take j).filter (inK keep)) = cu at *
              have hcl : cu.length + 1 ≤ 1048576 := by rw [← hcur, List.length_append]; omega
              have HCU := Lib.hid hcur
              clear hcur hm
              subst hv
              obtain ⟨i0, hi, hi0, hi1, hi2⟩ := info_parts intInfo
              have HI0 := Lib.hid (And.intro hi (And.intro hi0 (And.intro hi1 hi2)))
              clear hi hi0 hi1 hi2
              have HO := Lib.hid (HAT.out.own.alloc (.cells #[.int .i64 xj] 3))
              go_wp2_with (first
                | (go_at_call 35; refine HH.out.mono ?_; rintro e w' ⟨rfl, rfl⟩)
                | (at_builtin; refine wpList_append_own_at _ rfl (.tmp 49) (.tmp 54) 26 rfl w1.heap.size 3 i0 (.int .i64 0) 1 8 Tryz.underlying26 HI0.out.1 HI0.out.2.1 HI0.out.2.2.1 HI0.out.2.2.2 rfl (by decide) (.slice A5 cu.length c5) cu.length (cells cu) rfl HO.out ⟨wr.heap.size, 0, none⟩ 1 1 [.int .i64 xj] rfl rfl ?c1 ?c2 ?c3 ?c4 ?c5 ?_))
              case c1 => exact new_cells wr [.int .i64 xj] 3
              case c2 => simp [Value.oneCell']
              case c3 => unfold maxLen; omega
              case c4 => omega
              case c5 => simp; omega
              intro v' w2 hown2 hgrow _ _
              obtain ⟨A4, n4, c4, rfl⟩ := own_slice hown2
              have HX := Lib.hid (And.intro hown2 hgrow)
              clear hown2 hgrow
              go_wp2
              go_roundw
              case rel => exact ⟨j + 1, by omega, by go_num, by rw [HF.out, ← List.append_assoc, HCU.out]; exact var_next HAT.out HX.out.1 HX.out.2⟩
              case measure => simp [intOf]; omega
            · rw [decide_eq_false hm] at HH
              subst hv
              have HF := Lib.hid (filt_no (p := inK keep) hlt (in_no hm))
              clear hm
              go_wp2_with (go_at_call 35; refine HH.out.mono ?_; rintro e w' ⟨rfl, rfl⟩)
              go_roundw
              case rel => exact ⟨j + 1, by omega, by go_num, by rw [HF.out]; have h := HAT.out; rw [List.length_append] at h; exact h⟩
              case measure => simp [intOf]; omega
          · obtain rfl : j = vs.length := by omega
            rw [List.take_length] at HAT hv
            rw [← HOLD.out] at HAT hv
            subst hv
            have hol : old.length ≤ vs.length := by
              have := two_len vs (outK keep) (inK keep) (out_in keep) vs.length
              rw [List.take_length] at this
              rw [HOLD.out, List.length_append]; exact this
            have hwr2 := below_then HB1.out HAT.out.below
            have HGR := Lib.hid (row_on HG1.out HAT.out.below)
            have HZR := Lib.hid (row_on HZ0.out hwr2)
            have HN := Lib.hid (HNUM.out (by omega) wr d0 (TyRd.more (fun b hb => Nat.lt_of_lt_of_le hb HAT.out.below.size) _ _ _ (TyRd.keep (Same.lt HAT.out.below) _ _ _ HD1.out)) _ c5 (ints_own HAT.out.own).2.1)
            have HBR := Lib.hid (below_then HB.out hwr2)
            have hwz := HBR.out.size
            have hzz := lt_of_cells HZR.out
            have hq : ((vs.filter (outK keep)).length : Int) ≤ 1048576 := by
              have := List.length_filter_le (outK keep) vs
              omega
            clear hwr2
            go_wp2_with (refine wpList_load_row rfl 25 _ rfl w.heap.size rfl 25 _ (0, 0) _ HGR.out Tryz.underlying25 rfl (tySizeA _ _ _ _) ?_)
            refine HN.out.mono ?_
            rintro e w3 ⟨A6, c6, rfl, h6, h7⟩
            have HM := Lib.hid h6
            have HB3 := Lib.hid (below_then HBR.out h7)
            have HZ3 := Lib.hid (row_on HZR.out h7)
            clear h6 h7
            generalize rebT (placeF old) (.mk k n s l) = T at *
            generalize (vs.filter (outK keep)).length = Q at *
            go_wp2_with (refine wpList_store_row rfl 28 _ _ rfl (w.heap.size + 1) _ rfl rfl 28 #[.int .i64 0, .int .i64 0, .int .i64 0, .string ⟨#[]⟩, .slice none 0 0] HZ3.out (scSize _ _ _ _ _) rfl (one5 _ _ _ _ _ _ _) ?_)
            refine bodyPost_ret (v := .agg #[.int .i64 (Q : Int), .int .i64 T.kind, .int .i64 T.num, .string T.name, .slice A6 T.args.length c6]) (results_s10 rfl (setRow_row HZ3.out) (scSize _ _ _ _ _)) rfl ?_
            rw [HI.out.1, HI.out.2]
            obtain ⟨f1, f2⟩ := boxed_end (w := w) (b := w.heap.size + 1) (r := #[.int .i64 (Q : Int), .int .i64 T.kind, .int .i64 T.num, .string T.name, .slice A6 T.args.length c6]) HM.out hzz (by omega) HB3.out
            exact ⟨_, rfl, ⟨A6, c6, rfl, TyR.more (fun b hb => hb.2) f1, by omega⟩, f2⟩
end Go.Proofs.YtoopopjcojphaaaGreatDoor
