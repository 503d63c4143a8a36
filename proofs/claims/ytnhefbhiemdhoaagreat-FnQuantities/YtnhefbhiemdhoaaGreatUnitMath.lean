/- The units, in plain numbers: what a word stands for. -/
import Derived.Test.YtnhefbhiemdhoaaGreatDimMath
namespace Go.Proofs.YtnhefbhiemdhoaaGreat
open Go.Proofs.YtnhefbhiemdhoaaGreat.RM

/-- what a word stands for: a factor and a dimension -/
structure UV where
  n : Int
  d : Int
  x0 : Int
  x1 : Int
  x2 : Int
  x3 : Int
  x4 : Int
  deriving DecidableEq
namespace UV
def dims (u : UV) : List Int := [u.x0, u.x1, u.x2, u.x3, u.x4]
def zero : UV := ⟨0, 0, 0, 0, 0, 0, 0⟩
end UV
/-- the units, in the program's order -/
def uTab : List (List UInt8 × UV) :=
  [([109], ⟨1, 1, 1, 0, 0, 0, 0⟩), ([103], ⟨1, 1000, 0, 1, 0, 0, 0⟩), ([115], ⟨1, 1, 0, 0, 1, 0, 0⟩), ([65], ⟨1, 1, 0, 0, 0, 1, 0⟩), ([75], ⟨1, 1, 0, 0, 0, 0, 1⟩),
   ([109, 105, 110], ⟨60, 1, 0, 0, 1, 0, 0⟩), ([104], ⟨3600, 1, 0, 0, 1, 0, 0⟩), ([72, 122], ⟨1, 1, 0, 0, -1, 0, 0⟩), ([78], ⟨1, 1, 1, 1, -2, 0, 0⟩), ([80, 97], ⟨1, 1, -1, 1, -2, 0, 0⟩),
   ([74], ⟨1, 1, 2, 1, -2, 0, 0⟩), ([87], ⟨1, 1, 2, 1, -3, 0, 0⟩), ([86], ⟨1, 1, 2, 1, -3, -1, 0⟩), ([105, 110], ⟨127, 5000, 1, 0, 0, 0, 0⟩), ([67], ⟨1, 1, 0, 0, 0, 0, 1⟩)]
/-- .. and in the model's -/
def sTab : List (List UInt8 × UV) :=
  [([109], ⟨1, 1, 1, 0, 0, 0, 0⟩), ([103], ⟨1, 1000, 0, 1, 0, 0, 0⟩), ([115], ⟨1, 1, 0, 0, 1, 0, 0⟩), ([65], ⟨1, 1, 0, 0, 0, 1, 0⟩), ([75], ⟨1, 1, 0, 0, 0, 0, 1⟩),
   ([109, 105, 110], ⟨60, 1, 0, 0, 1, 0, 0⟩), ([104], ⟨3600, 1, 0, 0, 1, 0, 0⟩), ([72, 122], ⟨1, 1, 0, 0, -1, 0, 0⟩), ([78], ⟨1, 1, 1, 1, -2, 0, 0⟩), ([80, 97], ⟨1, 1, -1, 1, -2, 0, 0⟩),
   ([74], ⟨1, 1, 2, 1, -2, 0, 0⟩), ([87], ⟨1, 1, 2, 1, -3, 0, 0⟩), ([86], ⟨1, 1, 2, 1, -3, -1, 0⟩), ([67], ⟨1, 1, 0, 0, 0, 0, 1⟩), ([105, 110], ⟨127, 5000, 1, 0, 0, 0, 0⟩)]
def look (T : List (List UInt8 × UV)) (l : List UInt8) : Option UV := (T.find? (fun r => r.1 == l)).map (·.2)
/-- the unit of that name -/
def uFind (l : List UInt8) : Option UV := look uTab l
theorem look_cons (k : List UInt8) (u : UV) (T) (l) : look ((k, u) :: T) l = if k = l then some u else look T l := by
  unfold look
  rw [List.find?_cons]
  by_cases h : k = l
  · subst h; simp
  · have : (k == l) = false := by simpa using h
    simp [this, h]
theorem sFind_eq (l : List UInt8) : look sTab l = uFind l := by
  unfold uFind uTab sTab
  simp only [look_cons]
  by_cases h : [67] = l
  · subst h; decide
  · simp [h]
/-- a prefix's factor -/
def pfx (b : UInt8) : Int × Int :=
  if b = 107 then (1000, 1) else if b = 99 then (1, 100) else if b = 109 then (1, 1000) else if b = 117 then (1, 1000000) else if b = 77 then (1000000, 1) else (0, 0)
/-- products, as the functions tell them -/
def mulQ (p q : Int × Int) : Int × Int × Bool :=
  (opN (two p.1 p.2 q.1 q.2) (p.1 * q.1) (p.2 * q.2), opD (two p.1 p.2 q.1 q.2) (p.1 * q.1) (p.2 * q.2), opOk (two p.1 p.2 q.1 q.2) (p.1 * q.1) (p.2 * q.2))
/-- a prefix and a unit, as the program answers: also what stands beside a false -/
def preI (l : List UInt8) : UV × Bool :=
  match l with
  | [] => (.zero, false)
  | b :: r =>
    match uFind r with
    | none => (.zero, false)
    | some u =>
      if r = [109, 105, 110] ∨ r = [104] ∨ r = [67] then (.zero, false)
      else ({ u with n := (mulQ (pfx b) (u.n, u.d)).1, d := (mulQ (pfx b) (u.n, u.d)).2.1 }, (mulQ (pfx b) (u.n, u.d)).2.2)
def wordI (l : List UInt8) : UV × Bool :=
  match uFind l with
  | some u => (u, true)
  | none => preI l
/-- what is told of a word: what is none has nothing -/
def told (p : UV × Bool) : Int × Int × List Int × Bool := if p.2 then (p.1.n, p.1.d, p.1.dims, true) else (0, 0, [], false)
/-- .. as the model answers -/
def unitS (l : List UInt8) : Int × Int × List Int × Bool :=
  match uFind l with
  | some u => (u.n, u.d, u.dims, true)
  | none => (0, 0, [], false)
def preS (l : List UInt8) : Int × Int × List Int × Bool := told (preI l)
def wordS (l : List UInt8) : Int × Int × List Int × Bool := told (wordI l)
theorem told_len (p) : (told p).2.2.1.length ≤ 5 := by
  unfold told
  split
  · exact Nat.le_refl _
  · exact Nat.zero_le _
theorem wordS_unit {l : List UInt8} {u : UV} (h : uFind l = some u) : wordS l = (u.n, u.d, u.dims, true) := by simp [wordS, wordI, h, told]
theorem wordS_pre {l : List UInt8} (h : uFind l = none) : wordS l = preS l := by simp [wordS, wordI, h, preS]
/-- what stands in the table of units -/
theorem uFind_nil : uFind [] = none := by decide
theorem pfx_zero {b : UInt8} (h : b ≠ 107) (h2 : b ≠ 99) (h3 : b ≠ 109) (h4 : b ≠ 117) (h5 : b ≠ 77) : pfx b = (0, 0) := by simp [pfx, h, h2, h3, h4, h5]
theorem mulQ_zero (q : Int × Int) : mulQ (0, 0) q = (0, 0, false) := by
  have : two 0 0 q.1 q.2 = false := by
    unfold two
    simp [okB]
  simp [mulQ, this, opN, opD, opOk]
end Go.Proofs.YtnhefbhiemdhoaaGreat
