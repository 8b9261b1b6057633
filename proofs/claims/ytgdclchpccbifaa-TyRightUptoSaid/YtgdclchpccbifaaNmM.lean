/-
  PLAIN MATHEMATICS OF NAMES. Nothing of the program is named here.
-/
namespace Go.Proofs.Ytgdclchpccbifaa
/-- The byte at i; 256 behind the end. -/
def bt (s : ByteArray) (i : Nat) : Nat := if h : i < s.size then s[i].toNat else 256
theorem bt_in {s : ByteArray} {i : Nat} (h : i < s.size) : bt s i = s[i].toNat := by simp [bt, h]
def restB (c : Nat) : Bool := decide ((97 ≤ c ∧ c ≤ 122) ∨ (65 ≤ c ∧ c ≤ 90) ∨ (48 ≤ c ∧ c ≤ 57) ∨ c = 95 ∨ c = 39)
def letB (c : Nat) (cap : Bool) : Bool := if cap then decide (65 ≤ c ∧ c ≤ 90) else decide ((97 ≤ c ∧ c ≤ 122) ∨ c = 95)
def shapedB (s : ByteArray) (cap : Bool) : Bool := decide (1 ≤ s.size) && decide (s.size ≤ 32) && letB (bt s 0) cap && (List.range s.size).all fun i => i == 0 || restB (bt s i)
def wordsL : List ByteArray := [⟨#[97, 110, 100]⟩, ⟨#[97, 110, 100, 97, 108, 115, 111]⟩, ⟨#[97, 115]⟩, ⟨#[99, 97, 115, 101]⟩, ⟨#[100, 97, 116, 97, 116, 121, 112, 101]⟩, ⟨#[100, 105, 118]⟩, ⟨#[101, 108, 115, 101]⟩, ⟨#[101, 110, 100]⟩, ⟨#[101, 120, 99, 101, 112, 116, 105, 111, 110]⟩, ⟨#[102, 110]⟩, ⟨#[102, 117, 110]⟩, ⟨#[104, 97, 110, 100, 108, 101]⟩, ⟨#[105, 102]⟩, ⟨#[105, 110]⟩, ⟨#[108, 101, 116]⟩, ⟨#[109, 111, 100]⟩, ⟨#[111, 102]⟩, ⟨#[111, 114, 101, 108, 115, 101]⟩, ⟨#[112, 114, 105, 110, 116]⟩, ⟨#[114, 97, 105, 115, 101]⟩, ⟨#[114, 101, 97, 100]⟩, ⟨#[114, 101, 102]⟩, ⟨#[116, 104, 101, 110]⟩, ⟨#[118, 97, 108]⟩]
def lowB (s : ByteArray) : Bool := shapedB s false && decide (s ≠ ⟨#[95]⟩) && decide (s ≠ ⟨#[116, 114, 117, 101]⟩) && decide (s ≠ ⟨#[102, 97, 108, 115, 101]⟩) && !wordsL.any fun t => decide (t = s)
def argsB (s : ByteArray) : Int × Int := if s = ⟨#[105, 110, 116]⟩ ∨ s = ⟨#[98, 111, 111, 108]⟩ ∨ s = ⟨#[117, 110, 105, 116]⟩ ∨ s = ⟨#[101, 120, 110]⟩ then (0, 0) else if s = ⟨#[114, 101, 102]⟩ then (1, 1) else if s = ⟨#[45, 62]⟩ then (2, 2) else if s = ⟨#[42]⟩ then (2, 8) else (0, 8)
end Go.Proofs.Ytgdclchpccbifaa
