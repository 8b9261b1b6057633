import Derived.Test.YtoopopjcojphaaaGreatDoorQA
import Derived.Test.YtoopopjcojphaaaGreatDoorShelf
import Derived.Laws.IdiomStrings
import Derived.Lib.ItoaNum
import Derived.Lib.ItoaMem
import Derived.Lib.ItoaLen
import Derived.Test.YtoopopjcojphaaaGreatDoorQF
/-
  CONTRACTS OF num.Show AND OF THE REFERENCE's Show: both return the decimal numeral.
-/
namespace Go.Proofs.YtoopopjcojphaaaGreatDoor.Nu
open Go.ChangeShapes Go.WideShapes Go.ChangeAt Go.RowKit

def Pow10 (w : World) : Prop := Lib.TabIs Tryz.prog w "internal/strconv.uint64pow10" .u64 Lib.pow10Tab
theorem Pow10.on {w w' : World} (h : Pow10 w) (hb : Below w.heap.size w w') : Pow10 w' := tab_on h hb
theorem itoa_any (x : Int) (w : World) (h0 : -9223372036854775808 ≤ x) (h1 : x ≤ 9223372036854775807) (ht : Pow10 w) :
    Calls Tryz.prog 74 #[.int .i64 x] w fun e w' => e = .returned (.string ⟨(Lib.itoa x).toArray⟩) ∧ Below w.heap.size w w' :=
  (Tryz.strconv_Itoa x h0 h1 w ht).mono fun _ _ ⟨he, k, os, hw⟩ => ⟨he, by rw [hw]; exact below_grow (below_drewN (Below.refl _ _) k) (Nat.le_refl _) os⟩
theorem show_any (x : Int) (w : World) (h0 : -9223372036854775808 ≤ x) (h1 : x ≤ 9223372036854775807) (ht : Pow10 w) :
    Calls Tryz.prog 62 #[.int .i64 x] w fun e w' => e = .returned (.string ⟨(Lib.itoa x).toArray⟩) ∧ Below w.heap.size w w' := by
  go_enter Tryz.func62, Tryz.ntmps62
  go_wp2_with (go_at_call 74; refine (itoa_any _ _ h0 h1 ht).mono ?_; rintro e w' ⟨rfl, hb⟩)
  go_ret
  exact ⟨rfl, hb⟩

theorem conv_one (W : World) (n : Int) : (convert 113 9 (.slice (some ⟨W.heap.size, 0, none⟩) 1 1)).run Tryz.prog (W.alloc (.cells #[.int .u8 n] 5)) = .ok (.string ⟨#[UInt8.ofNat n.toNat]⟩) (W.alloc (.cells #[.int .u8 n] 5)) := by
  rw [run_convert_bytes_string _ 113 9 5 _ 1 1 Tryz.underlying113 Tryz.underlying5 Tryz.underlying9]
  rw [run_bytesToString _ _ 1 1 [n] ?_]
  · rfl
  · have hl := run_loadCells_list (P := Tryz.prog) (W.alloc (.cells #[.int .u8 n] 5)) ⟨W.heap.size, 0, none⟩ [.int .u8 n] (fun j v hj => by
      cases j with
      | zero =>
        simp at hj
        subst hj
        simp [Addr.add, go_sem]
      | succ j => simp at hj)
    simpa using hl
theorem str_cons (c : UInt8) (L : List UInt8) : (⟨#[c]⟩ : ByteArray) ++ ⟨L.toArray⟩ = ⟨(c :: L).toArray⟩ := by
  apply ByteArray.ext
  simp
def pre (u : Nat) : List UInt8 := if u = 0 then [] else Lib.decDigits u
theorem pre_step (u : Nat) (h : ¬ u = 0) : pre u = pre (u / 10) ++ [UInt8.ofNat (48 + u % 10)] := by
  unfold pre
  rw [if_neg h, Lib.decDigits]
  split
  · rw [if_pos (by omega), Nat.mod_eq_of_lt (by omega)]; rfl
  · rw [if_neg (by omega)]
theorem pre_first (u : Nat) : pre (u / 10) ++ [UInt8.ofNat (48 + u % 10)] = Lib.decDigits u := by
  by_cases h : u = 0
  · subst h; rw [Lib.decDigits_one (by omega)]; rfl
  · rw [← pre_step u h]; unfold pre; rw [if_neg h]
def ShowInv (U u : Nat) (s : Value) (w wr : World) : Prop := ∃ L : List UInt8, s = .string ⟨L.toArray⟩ ∧ pre u ++ L = Lib.decDigits U ∧ Below w.heap.size w wr

theorem pre_next {U u : Nat} {L : List UInt8} (h : pre u ++ L = Lib.decDigits U) (hu : ¬ u = 0) : pre (u / 10) ++ ((48 + UInt8.ofNat (u % 10)) :: L) = Lib.decDigits U := by
  rw [← h, pre_step u hu, List.append_assoc, UInt8.ofNat_add]; rfl
theorem ofNat_48 (k : Nat) : UInt8.ofNat (48 + k) = 48 + UInt8.ofNat k := by rw [UInt8.ofNat_add]; rfl
theorem dec_len (U : Nat) (h : U < 18446744073709551616) : (Lib.decDigits U).length ≤ 20 := by
  rw [Lib.decDigits_length]
  exact Lib.nDigits_le20 U h
theorem inv_len {U u : Nat} {L : List UInt8} (hU : U < 18446744073709551616) (h : pre u ++ L = Lib.decDigits U) : L.length ≤ 20 := by
  have h1 := congrArg List.length h
  have h2 := dec_len U hU
  rw [List.length_append] at h1
  omega
theorem rshow_neg (U : Nat) (w : World) (h0 : 1 ≤ U) (h1 : U ≤ 9223372036854775808) :
    Calls Tryz.prog 81 #[.int .i64 (-(U : Int))] w fun e w' => e = .returned (.string ⟨(Lib.itoa (-(U : Int))).toArray⟩) ∧ Below w.heap.size w w' := by
  have hwr : IntKind.u64.wrap (-IntKind.u64.wrap (-(U : Int))) = (U : Int) := by rw [IntKind.wrap_u64, IntKind.wrap_u64]; omega
  have cv := conv_one
  have hd : decide (0 < U) = true := decide_eq_true (by omega)
  go_enter Tryz.func81, Tryz.ntmps81
  go_wp2
  rw [ofNat_48]
  go_loopw [3, 4] (fun v s wr => ∃ u : Nat, v = .int .u64 u ∧ u ≤ U ∧ ShowInv U u s w wr) (fun v _ _ => (intOf v).toNat)
  case atStart => exact ⟨U / 10, rfl, Nat.div_le_self _ _, _, rfl, (ofNat_48 (U % 10)) ▸ pre_first U, (Below.refl _ _).alloc (Nat.le_refl _) _⟩
  case round =>
    obtain ⟨u, rfl, hle, L, rfl, hL, hb⟩ := hrel
    have hlen := inv_len (by omega) hL
    have HL := Lib.hid hL
    clear hL
    by_cases hu : u = 0
    · subst hu
      go_wp2
      go_ret
      exact ⟨ret_str ((str_cons 45 L).trans (by rw [show L = Lib.decDigits U from HL.out, Lib.itoa_neg U h0])), hb⟩
    · have hu' : 0 < u := by omega
      go_wp2
      go_roundw
      case rel => exact ⟨u / 10, rfl, by omega, _, congrArg Value.string (str_cons _ L), pre_next HL.out hu, hb.alloc hb.size _⟩
      case measure => simp [intOf]; omega

theorem rshow_pos (U : Nat) (w : World) (h1 : U ≤ 9223372036854775807) :
    Calls Tryz.prog 81 #[.int .i64 (U : Int)] w fun e w' => e = .returned (.string ⟨(Lib.itoa (U : Int)).toArray⟩) ∧ Below w.heap.size w w' := by
  have cv := conv_one
  go_enter Tryz.func81, Tryz.ntmps81
  go_wp2
  rw [ofNat_48]
  go_loopw [3, 4] (fun v s wr => ∃ u : Nat, v = .int .u64 u ∧ u ≤ U ∧ ShowInv U u s w wr) (fun v _ _ => (intOf v).toNat)
  case atStart => exact ⟨U / 10, rfl, Nat.div_le_self _ _, _, rfl, (ofNat_48 (U % 10)) ▸ pre_first U, (Below.refl _ _).alloc (Nat.le_refl _) _⟩
  case round =>
    obtain ⟨u, rfl, hle, L, rfl, hL, hb⟩ := hrel
    have hlen := inv_len (by omega) hL
    have HL := Lib.hid hL
    clear hL
    by_cases hu : u = 0
    · subst hu
      go_wp2
      go_ret
      exact ⟨ret_str (by rw [show L = Lib.decDigits U from HL.out, Lib.itoa_nonneg]), hb⟩
    · have hu' : 0 < u := by omega
      go_wp2
      go_roundw
      case rel => exact ⟨u / 10, rfl, by omega, _, congrArg Value.string (str_cons _ L), pre_next HL.out hu, hb.alloc hb.size _⟩
      case measure => simp [intOf]; omega

theorem rshow_any (x : Int) (w : World) (h0 : -9223372036854775808 ≤ x) (h1 : x ≤ 9223372036854775807) :
    Calls Tryz.prog 81 #[.int .i64 x] w fun e w' => e = .returned (.string ⟨(Lib.itoa x).toArray⟩) ∧ Below w.heap.size w w' := by
  by_cases hx : x < 0
  · obtain ⟨U, rfl⟩ : ∃ U : Nat, x = -(U : Int) := ⟨x.natAbs, by omega⟩
    exact rshow_neg U w (by omega) (by omega)
  · obtain ⟨U, rfl⟩ : ∃ U : Nat, x = (U : Int) := ⟨x.toNat, by omega⟩
    exact rshow_pos U w (by omega)
def shw (n : Int) : ByteArray := ⟨(Lib.itoa n).toArray⟩
theorem shw_data (n : Int) : (shw n).data.toList = Lib.itoa n := by simp [shw]
theorem shw_size (n : Int) : (shw n).size = (Lib.itoa n).length := by show (Lib.itoa n).toArray.size = _; simp
theorem shw_le (n : Int) (h0 : -9223372036854775808 ≤ n) (h1 : n ≤ 9223372036854775807) : (shw n).size ≤ maxLen := by
  rw [shw_size]; have := Lib.itoa_length_le n h0 h1; unfold maxLen; omega
theorem show_shw (x : Int) (w : World) (h0 : -9223372036854775808 ≤ x) (h1 : x ≤ 9223372036854775807) (ht : Pow10 w) :
    Calls Tryz.prog 62 #[.int .i64 x] w fun e w' => e = .returned (.string (shw x)) ∧ Below w.heap.size w w' := show_any x w h0 h1 ht
theorem rshow_shw (x : Int) (w : World) (h0 : -9223372036854775808 ≤ x) (h1 : x ≤ 9223372036854775807) :
    Calls Tryz.prog 81 #[.int .i64 x] w fun e w' => e = .returned (.string (shw x)) ∧ Below w.heap.size w w' := rshow_any x w h0 h1
end Go.Proofs.YtoopopjcojphaaaGreatDoor.Nu
/-
  PLAIN MATHEMATICS OF THE TEXTS OF TYPES: the text, its parts, and a name that scans as one token. Nothing of the program is named here.
-/
namespace Go.Proofs.YtoopopjcojphaaaGreatDoor
/-! ### A lower-case name is one token -/
theorem bt_lx (s : ByteArray) (i : Nat) : Lx.bt s i = bt s i := rfl
theorem low_parts {s : ByteArray} (h : lowB s = true) : 1 ≤ s.size ∧ s.size ≤ 32 ∧ ((97 ≤ bt s 0 ∧ bt s 0 ≤ 122) ∨ bt s 0 = 95) ∧ (∀ i, 1 ≤ i → i < s.size → restB (bt s i) = true) ∧ s ≠ ⟨#[95]⟩ ∧ s ≠ ⟨#[116, 114, 117, 101]⟩ ∧ s ≠ ⟨#[102, 97, 108, 115, 101]⟩ ∧ ∀ t ∈ wordsL, t ≠ s := by
  unfold lowB shapedB letB at h
  simp only [Bool.and_eq_true, decide_eq_true_eq, Bool.false_eq_true, if_false, Bool.not_eq_true', List.any_eq_false, List.all_eq_true, List.mem_range, Bool.or_eq_true, beq_iff_eq] at h
  obtain ⟨⟨⟨⟨⟨⟨⟨h1, h2⟩, h3⟩, h4⟩, h5⟩, h6⟩, h7⟩, h8⟩ := h
  exact ⟨h1, h2, h3, fun i hi hl => (h4 i hl).resolve_left (by omega), h5, h6, h7, fun t ht e => h8 t ht e⟩
theorem rest_wc {c : Nat} (h : restB c = true) : Lx.wc c = true := by
  unfold restB at h
  rw [decide_eq_true_eq] at h
  rw [Lx.wc_iff, Lx.dg_iff, Lx.lt_iff]; omega
theorem words_kws : wordsL = Lx.Kws.map fun l => (⟨l.toArray⟩ : ByteArray) := rfl
theorem low_scan {s : ByteArray} (h : lowB s = true) : Lx.scanM s = (0, 0, [⟨2, 0, s, 0⟩]) := by
  obtain ⟨h1, h2, h3, h4, h5, h6, h7, h8⟩ := low_parts h
  have hb : Lx.bl (Lx.bt s 0) = false := by rw [Lx.bl_false, bt_lx]; omega
  have ho : Lx.opens s 0 = false := by
    cases e : Lx.opens s 0 with
    | false => rfl
    | true => have := (Lx.opens_iff.1 e).1; rw [bt_lx] at this; omega
  have hsk : Lx.sk s 0 = (0, true) := Lx.sk_stop hb ho
  have hdg : Lx.dg (Lx.bt s 0) = false := by rw [Lx.dg_false, bt_lx]; omega
  have hlt : Lx.lt (Lx.bt s 0) = true := by rw [Lx.lt_iff, bt_lx]; omega
  have hte : Lx.tokEnd s 0 = s.size := by
    unfold Lx.tokEnd
    rw [hdg, hlt]
    simp only [Bool.false_eq_true, if_false, true_or, if_true]
    refine Lx.rend_is Lx.wc256 h1 (fun k hk1 hk2 => rest_wc (h4 k hk1 hk2)) ?_
    rw [Lx.bt_out (by omega)]; rfl
  have hex : s.extract 0 s.size = s := ByteArray.extract_zero_size
  have hl : ∀ l : List UInt8, (⟨l.toArray⟩ : ByteArray) ≠ s → s.data.toList ≠ l := fun l hne e => hne (by rw [← e])
  have hkm : Lx.kindM s = 2 := by
    unfold Lx.kindM
    rw [hdg, hlt]
    have k1 : ¬ (Lx.bt s 0 = 39) := by rw [bt_lx]; omega
    have k2 : ¬ s.data.toList = [95] := hl _ (fun e => h5 e.symm)
    have k3 : Lx.isKw s.data.toList = false := by
      unfold Lx.isKw
      rw [Bool.eq_false_iff]
      intro e
      rw [List.contains_iff_mem] at e
      exact h8 ⟨s.data.toList.toArray⟩ (by rw [words_kws]; exact List.mem_map.2 ⟨_, e, rfl⟩) rfl
    have k4 : ¬ (s.data.toList = [116, 114, 117, 101] ∨ s.data.toList = [102, 97, 108, 115, 101] ∨ (65 ≤ Lx.bt s 0 ∧ Lx.bt s 0 ≤ 90)) := by
      rintro (e | e | e)
      · exact hl _ (fun x => h6 x.symm) e
      · exact hl _ (fun x => h7 x.symm) e
      · rw [bt_lx] at e; omega
    simp only [Bool.false_eq_true, if_false, k1, k2, k3, k4, Bool.true_eq_false]
  have hte2 : Lx.tokErr s false = 0 := by
    unfold Lx.tokErr Lx.nameLen
    rw [hkm]
    have k1 : ¬ (Lx.bt s 0 = 39) := by rw [bt_lx]; omega
    have k2 : ¬ (32 < s.size) := by omega
    have k3 : ¬ s.size = 0 := by omega
    simp [k1, k2, k3]
  have ho1 : Lx.one s 0 0 false = .tok ⟨2, 0, s, 0⟩ s.size := by
    unfold Lx.one
    rw [hsk]
    simp only [Bool.true_eq_false, if_false]
    have k3 : ¬ 0 = s.size := by omega
    rw [if_neg k3, hte, hex, hte2]
    unfold Lx.tokOf Lx.tokN
    rw [hkm]
    simp
  have ho2 : ∀ g, Lx.one s s.size 1 g = .fin := fun g => by
    unfold Lx.one
    rw [Lx.sk_end (by omega)]
    simp
  unfold Lx.scanM
  rw [if_neg (by omega)]
  obtain ⟨n, hn⟩ : ∃ n, s.size = n + 1 := ⟨s.size - 1, by omega⟩
  rw [hn]
  show Lx.sc s (n + 1 + 1) 0 [] = _
  rw [Lx.sc]
  have hneg : Lx.neg [] = false := rfl
  simp only [List.length_nil, hneg, ho1]
  rw [Lx.sc]
  simp only [List.nil_append, List.length_singleton, ho2]
/-! ### Texts -/
def lvN (s : ByteArray) : Nat := if s = ⟨#[45, 62]⟩ then 0 else if s = ⟨#[42]⟩ then 1 else 2
def wrapL (b : Bool) (x : List UInt8) : List UInt8 := if b then [40] ++ x ++ [41] else x
def wrK (k : Nat) (p : Nat × List UInt8) : List UInt8 := wrapL (decide (p.1 < k)) p.2
/-- Parts with something between any two. -/
def joinW (sep : List UInt8) (k : Nat) : List (Nat × List UInt8) → List UInt8
  | [] => []
  | p :: r => wrK k p ++ (r.map fun q => sep ++ wrK k q).flatten
def conTx (s : ByteArray) (ps : List (Nat × List UInt8)) : List UInt8 :=
  if ps = [] then s.data.toList
  else if s = ⟨#[45, 62]⟩ then wrK 1 (ps.getD 0 (2, [])) ++ [32, 45, 62, 32] ++ wrK 0 (ps.getD 1 (2, []))
  else if s = ⟨#[42]⟩ then joinW [32, 42, 32] 2 ps
  else if ps.length = 1 then wrK 2 (ps.getD 0 (2, [])) ++ [32] ++ s.data.toList
  else [40] ++ joinW [44, 32] 0 ps ++ [41, 32] ++ s.data.toList
mutual
def txT (vt : Int → List UInt8) : Tt → List UInt8
  | .mk k n s l => if k = 1 then vt n else conTx s (txL vt l)
def txL (vt : Int → List UInt8) : List Tt → List (Nat × List UInt8)
  | [] => []
  | t :: r => (lvN t.name, txT vt t) :: txL vt r
end
theorem txL_map (vt : Int → List UInt8) (l : List Tt) : txL vt l = l.map fun t => (lvN t.name, txT vt t) := by
  induction l with
  | nil => rfl
  | cons t r ih => simp [txL, ih]
theorem tx_var (vt : Int → List UInt8) (n : Int) (s : ByteArray) (l : List Tt) : txT vt (.mk 1 n s l) = vt n := by rw [txT, if_pos rfl]
theorem tx_con (vt : Int → List UInt8) {k n : Int} {s : ByteArray} {l : List Tt} (h : k ≠ 1) : txT vt (.mk k n s l) = conTx s (l.map fun t => (lvN t.name, txT vt t)) := by rw [txT, if_neg h, txL_map]
def varTx (n : Int) : List UInt8 := UInt8.ofNat (97 + n.toNat % 26) :: (if 25 < n then Lib.itoa (n / 26) else [])
/-- The text of variables of a scheme. -/
def vtS (v n : Int) : List UInt8 := if n < v then 39 :: varTx n else 95 :: varTx (n - v)
def showS (v : Int) (t : Tt) : List UInt8 := if rightS v t = true then txT (vtS v) t else []
/-- The name of a free variable. -/
def freeN (i : Int) : ByteArray := ⟨(95 :: varTx i).toArray⟩
def frF (v n : Int) : Option Tt := if v ≤ n then some (.mk 2 0 (freeN (n - v)) []) else none
theorem frN_lv (i : Int) : lvN (freeN i) = 2 := by
  unfold lvN
  rw [if_neg, if_neg]
  · intro e; have := congrArg (fun x : ByteArray => x.data.toList) e; simp [freeN] at this
  · intro e; have := congrArg (fun x : ByteArray => x.data.toList) e; simp [freeN] at this
mutual
theorem tx_free {v : Int} : ∀ t : Tt, formedT t = true → txT (vtS v) t = txT (fun n => 39 :: varTx n) (rebT (frF v) t) ∧ lvN t.name = lvN (rebT (frF v) t).name
  | .mk k n s l, h => by
    by_cases hk : k = 1
    · obtain ⟨_, hs, hl⟩ := formed_var h hk
      subst hk
      by_cases hn : v ≤ n
      · rw [reb_var (u := .mk 2 0 (freeN (n - v)) []) (by unfold frF; rw [if_pos hn]), tx_var, tx_con _ (by decide)]
        refine ⟨?_, ?_⟩
        · unfold vtS conTx; rw [if_neg (by omega), List.map_nil, if_pos rfl]; rfl
        · rw [show (Tt.mk 2 0 (freeN (n - v)) []).name = freeN (n - v) from rfl, frN_lv, hs]; rfl
      · rw [reb_none (by unfold frF; rw [if_neg hn]), tx_var, tx_var]
        refine ⟨?_, rfl⟩
        unfold vtS; rw [if_pos (by omega)]
    · rw [reb_con hk, tx_con _ hk, tx_con _ hk, List.map_map]
      refine ⟨?_, rfl⟩
      congr 1
      exact tx_freeL l (formed_node h).2
theorem tx_freeL {v : Int} : ∀ l : List Tt, (∀ t ∈ l, formedT t = true) → (l.map fun t => (lvN t.name, txT (vtS v) t)) = l.map ((fun t => (lvN t.name, txT (fun n => 39 :: varTx n) t)) ∘ rebT (frF v))
  | [], _ => rfl
  | t :: r, h => by
    have h1 := tx_free (v := v) t (h t (List.mem_cons_self ..))
    have h2 := tx_freeL (v := v) r fun u hu => h u (List.mem_cons_of_mem _ hu)
    simp only [List.map_cons, h2, Function.comp]
    rw [h1.1, h1.2]
end
end Go.Proofs.YtoopopjcojphaaaGreatDoor
