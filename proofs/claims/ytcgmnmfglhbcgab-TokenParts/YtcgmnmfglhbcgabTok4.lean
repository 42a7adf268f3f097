/- The words of a text: what is read at a place, and all of them. -/
import Derived.Test.YtcgmnmfglhbcgabTok3
import Derived.Test.YtcgmnmfglhbcgabNum6
import Derived.Lib.Index
namespace Go.Proofs.Ytcgmnmfglhbcgab
open Go.RowKit

/-- A part of an identifier at a place: what it means, and how many bytes it has (0: there is none). -/
def idP (s : ByteArray) (k : Nat) : ByteArray × Nat :=
  if (hexV s k).2 = 0 ∧ k < s.size ∧ inT (btT s k) = true then (⟨#[btT s k]⟩, 1) else hexV s k

/-- What a backslash and what stands behind it mean in a string. -/
def escV (s : ByteArray) (k : Nat) : Option (ByteArray × Nat) :=
  if s.size ≤ k + 1 then none
  else if btT s (k + 1) = 13 then some (⟨#[]⟩, if Lib.hasPrefix (s.extract (k + 1) s.size).data.toList [13, 10] then 3 else 2)
  else if btT s (k + 1) = 10 ∨ btT s (k + 1) = 12 then some (⟨#[]⟩, 2)
  else some (hexV s k)

/-- A part of a string at a place (none: it is wrong there). -/
def quP (s : ByteArray) (q : UInt8) (k : Nat) : Option (ByteArray × Nat) :=
  if s.size ≤ k ∨ leT (btT s k) = true then none
  else if btT s k = q then some (⟨#[]⟩, 0)
  else if btT s k = 92 then escV s k
  else some (⟨#[btT s k]⟩, 1)

/-- What all parts from a place on mean, and where they end (none: one is wrong). -/
def mean (p : Nat → Option (ByteArray × Nat)) : Nat → Nat → List UInt8 → Option (List UInt8 × Nat)
  | 0, _, _ => none
  | f + 1, k, acc =>
    match p k with
    | none => none
    | some (m, n) => if n = 0 then some (acc, k) else if m.data.toList = [0] then none else mean p f (k + n) (acc ++ m.data.toList)

/-- The same, with the limit asked behind all. -/
def meanV (s : ByteArray) (lim : Nat) (p : Nat → Option (ByteArray × Nat)) (k : Nat) : Except Int (ByteArray × Nat) :=
  match mean p (s.size + 1) k [] with
  | none => .error 30
  | some (acc, k') => if lim < acc.length then .error 52 else .ok (⟨acc.toArray⟩, k')

/-- A word, but for its place. -/
structure Wd where
  kind : Int
  text : ByteArray
  num : ByteArray

def identV (s : ByteArray) (k : Nat) : Except Int (ByteArray × Nat) := meanV s 64 (fun j => some (idP s j)) k
/-- A byte stands at a place. -/
def isAt (s : ByteArray) (k : Nat) (c : UInt8) : Bool := decide (k < s.size ∧ btT s k = c)
def noB : ByteArray := ⟨#[]⟩

def quotV (s : ByteArray) (k : Nat) : Except Int (Wd × Nat) :=
  match meanV s 8192 (quP s (btT s k)) (k + 1) with
  | .error e => .error e
  | .ok (t, k') => .ok (⟨6, t, noB⟩, k' + 1)

def nameV (s : ByteArray) (k : Nat) : Except Int (Wd × Nat) :=
  match identV s k with
  | .error e => .error e
  | .ok (t, k') => if isAt s k' 40 = true then .ok (⟨2, t, noB⟩, k' + 1) else .ok (⟨1, t, noB⟩, k')

def numV (s : ByteArray) (k n : Nat) : Except Int (Wd × Nat) :=
  if isAt s (k + n) 37 = true then .ok (⟨4, noB, s.extract k (k + n)⟩, k + n + 1)
  else if begV s (k + n) = true then
    match identV s (k + n) with
    | .error e => .error e
    | .ok (t, k') => .ok (⟨5, t, s.extract k (k + n)⟩, k')
  else .ok (⟨3, noB, s.extract k (k + n)⟩, k + n)

def sgB : List UInt8 := [44, 47, 58, 59, 123, 125, 91, 93, 40, 41]
/-- The word at a place, and where it ends. -/
def wordV (s : ByteArray) (k : Nat) : Except Int (Wd × Nat) :=
  if 0 < scanV (s.extract k s.size) then numV s k (scanV (s.extract k s.size))
  else if begV s k = true then nameV s k
  else if btT s k = 34 ∨ btT s k = 39 then quotV s k
  else if Lib.indexByte sgB (btT s k) < 0 then .error 30
  else .ok (⟨7, ⟨#[btT s k]⟩, noB⟩, k + 1)

/-- The place of the next word from one on (none: there is none), or that of a comment that nothing ends. -/
def nextV (s : ByteArray) : Nat → Nat → Except Nat (Option Nat)
  | 0, k => .error k
  | f + 1, k =>
    if s.size ≤ k then .ok none
    else if blT (btT s k) = true then nextV s f (k + 1)
    else if Lib.hasPrefix (s.extract k s.size).data.toList [47, 42] = true then
      if Lib.index (s.extract (k + 2) s.size).data.toList [42, 47] < 0 then .error k
      else nextV s f (k + 2 + ((Lib.index (s.extract (k + 2) s.size).data.toList [42, 47]).toNat + 2))
    else .ok (some k)

/-- All words from a place on, behind those that were read. -/
def readV (s : ByteArray) : Nat → Nat → List (Wd × Nat) → Except (Nat × Int) (List (Wd × Nat))
  | 0, k, _ => .error (k, 0)
  | f + 1, k, acc =>
    match nextV s (s.size + 1) k with
    | .error a => .error (a, 30)
    | .ok none => .ok acc
    | .ok (some a) =>
      match wordV s a with
      | .error e => .error (a, e)
      | .ok (t, k') => readV s f k' (acc ++ [(t, a)])

/-- The words of a text, and the place and the error of what is wrong. -/
def tokV (s : ByteArray) : Except (Nat × Int) (List (Wd × Nat)) :=
  if 262144 < s.size then .error (262144, 52)
  else match readV s (s.size + 1) 0 [] with
    | .error x => .error x
    | .ok l => if 65536 < l.length then .error ((l.getD 65536 (⟨0, noB, noB⟩, 0)).2, 52) else .ok (l ++ [(⟨8, noB, noB⟩, s.size)])

end Go.Proofs.Ytcgmnmfglhbcgab
