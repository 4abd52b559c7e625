/- A second, small machine that runs Go's code in one order, over a memory of its own: definitions. -/
import Derived.Orders
import Derived.OrdersIn
import Derived.LoopNIn
import Derived.RangeFuncIn
set_option linter.unusedSectionVars false
set_option linter.unusedSimpArgs false
set_option linter.unusedVariables false
namespace Option
noncomputable def bnd {α β : Type} (x : Option α) (f : α → Option β) : Option β := Option.rec (motive := fun _ => Option β) none f x
end Option
namespace Go.Ev
noncomputable section

/-! ### A tree of things by number -/
inductive Tr (α : Type) where
  | leaf
  | node (l : Tr α) (v : Option α) (r : Tr α)

namespace Tr
variable {α : Type}
noncomputable def get (t : Tr α) : Nat → Option α :=
  Tr.rec (motive := fun _ => Nat → Option α) (fun _ => none)
    (fun _ v _ gl gr n => Nat.rec (motive := fun _ => Option α) v
      (fun k _ => Bool.rec (motive := fun _ => Option α) (gr (Nat.div k (nat_lit 2))) (gl (Nat.div k (nat_lit 2))) (Nat.beq (Nat.mod k (nat_lit 2)) (nat_lit 0))) n) t
noncomputable def left (t : Tr α) : Tr α := Tr.rec (motive := fun _ => Tr α) .leaf (fun l _ _ _ _ => l) t
noncomputable def right (t : Tr α) : Tr α := Tr.rec (motive := fun _ => Tr α) .leaf (fun _ _ r _ _ => r) t
noncomputable def here (t : Tr α) : Option α := Tr.rec (motive := fun _ => Option α) none (fun _ v _ _ _ => v) t
noncomputable def setF (v : Option α) (f : Nat) : Tr α → Nat → Tr α :=
  Nat.rec (motive := fun _ => Tr α → Nat → Tr α) (fun t _ => t)
    (fun _ ih t n => Nat.rec (motive := fun _ => Tr α) (.node t.left v t.right)
      (fun k _ => Bool.rec (motive := fun _ => Tr α) (.node t.left t.here (ih t.right (Nat.div k (nat_lit 2)))) (.node (ih t.left (Nat.div k (nat_lit 2))) t.here t.right) (Nat.beq (Nat.mod k (nat_lit 2)) (nat_lit 0))) n) f
noncomputable def set (t : Tr α) (n : Nat) (v : Option α) : Tr α := setF v (Nat.succ n) t n
end Tr

/-! ### Memory -/
/-- cells, their type, and whether there may be more cells than these: then the number of cells of an element -/
structure Cs where
  cs : List Value
  elem : TypeId
  more : Option Nat

/-- an object -/
inductive OV where
  | cells (c : Cs)
  | iter (s : ByteArray) (pos : Nat)
  | map (es : List (Value × Value))
  | loop (st : LoopState) (pending : Option Code) (tm : Tr Value) (n : Nat) (params : List Tmp) (assign body : Code)
  | mark

/-- objects, the next name, the names that may be written (those from lock on, and ext), the names that may not be looked at -/
structure S where
  h : Tr OV
  nx : Nat
  lock : Nat
  ext : Option Nat
  ban : List (Nat × Nat)

/-- a frame: its temporaries, how many there are, and the marks of its loops -/
structure Ctx where
  t : Tr Value
  n : Nat
  marks : List Nat

def guardB {α : Type} (b : Bool) (k : Option α) : Option α := Bool.rec (motive := fun _ => Option α) none k b

def banned : List (Nat × Nat) → Nat → Bool
  | [], _ => false
  | (lo, hi) :: rest, r => match Nat.ble lo r, Nat.blt r hi with
    | true, true => true
    | _, _ => banned rest r
def S.any (s : S) (r : Nat) : Option OV := match banned s.ban r with
  | true => none
  | false => s.h.get r
def csOf : OV → Option Cs
  | .cells c => some c
  | _ => none
def S.obj (s : S) (r : Nat) : Option Cs := (s.any r).bnd csOf
def S.wr (s : S) (r : Nat) : Bool := match Nat.ble s.lock r with
  | true => true
  | false => match s.ext with
    | none => false
    | some w => Nat.beq w r
def S.put (s : S) (r : Nat) (o : Option OV) : S := ⟨s.h.set r o, s.nx, s.lock, s.ext, s.ban⟩
def S.add (s : S) (o : OV) : S := ⟨s.h.set s.nx (some o), Nat.succ s.nx, s.lock, s.ext, s.ban⟩
def ptr (b o : Nat) : Value := .pointer (some ⟨b, o, none⟩)
def S.new (s : S) (c : Cs) : Value × S := (ptr s.nx (nat_lit 0), s.add (.cells c))

/-! ### Values -/
/-- a value of one cell without an address -/
def flat1 : Value → Bool
  | .bool _ | .int .. | .float .. | .string _ | .pointer none | .slice none 0 0 | .map none | .nilFunc | .nilIface => true
  | .func (.func _) first caps => first.isEmpty && caps.isEmpty
  | _ => false
def flat2 : Value → Bool
  | .agg cs => cs.toList.all flat1
  | v => flat1 v
def flat : Value → Bool
  | .tuple vs => vs.toList.all flat2
  | v => flat2 v
def ptrOf : Value → Option (Nat × Nat)
  | .pointer (some ⟨b, o, none⟩) => some (b, o)
  | _ => none
def sliceOf : Value → Option (Option (Nat × Nat) × Nat × Nat)
  | .slice (some ⟨b, o, none⟩) n c => some (some (b, o), n, c)
  | .slice none n c => some (none, n, c)
  | _ => none
def aggOf : Value → Option (List Value)
  | .agg cs => some cs.toList
  | _ => none
def tupleOf : Value → Option (List Value)
  | .tuple cs => some cs.toList
  | _ => none
def intOf : Value → Option Int
  | .int _ n => some n
  | _ => none
def boolOf : Value → Option Bool
  | .bool b => some b
  | _ => none
def strOf : Value → Option ByteArray
  | .string b => some b
  | _ => none
def mapOf : Value → Option (Option Nat)
  | .map r => some r
  | _ => none
/-- a function with what it has captured -/
def cloOf : Value → Option (FuncId × List Value × List Value)
  | .func (.func f) first caps => some (f, first.toList, caps.toList)
  | _ => none
def yieldOf : Value → Option Nat
  | .func (.yield l) first caps => match first.toList, caps.toList with
    | [], [] => some l
    | _, _ => none
  | _ => none
def cellB : Value → Bool
  | .agg _ | .tuple _ => false
  | _ => true
def varB : Value → Bool
  | .tuple _ => false
  | _ => true
def ptrB (v : Value) : Bool := (ptrOf v).isSome
/-- a receiver's cell that a method value holds: no function -/
def heldB : Value → Bool
  | .agg _ | .tuple _ | .func .. => false
  | _ => true
def boundB : Value → Bool
  | .agg cs => cs.toList.all heldB
  | v => heldB v

def opnd (tm : Ctx) : Operand → Option Value
  | .tmp t => tm.t.get t
  | .const v => guardB (flat v) (some v)
  | .global g => guardB (Nat.blt g (nat_lit 256)) (some (ptr g (nat_lit 0)))
  | .func f => some (.func (.func f) #[] #[])

/-- what a computation gives that does not look at memory -/
def pureOf {α : Type} (P : Program) : Sem α → Option α
  | .pure a => some a
  | .program k => pureOf P (k P)
  | .mark _ k => pureOf P k
  | _ => none

def isAggB (P : Program) (t : TypeId) : Option Bool := (P.underlying t).bnd fun d => match d with
  | .struct _ | .array _ _ => some true
  | _ => some false
def sliceElem (P : Program) (t : TypeId) : Option TypeId := (P.underlying t).bnd fun d => match d with
  | .slice e => some e
  | _ => none
def arrayElem (P : Program) (t : TypeId) : Option (Nat × TypeId) := (P.underlying t).bnd fun d => match d with
  | .array n e => some (n, e)
  | _ => none
def structFields (P : Program) (t : TypeId) : Option (List Field) := (P.underlying t).bnd fun d => match d with
  | .struct fs => some fs.toList
  | _ => none
def mapTypes (P : Program) (t : TypeId) : Option (TypeId × TypeId) := (P.underlying t).bnd fun d => match d with
  | .map k e => some (k, e)
  | _ => none
def sizeB (P : Program) (t : TypeId) : Option Nat := (P.info? t).bnd fun i => some i.size
def zeroB (P : Program) (t : TypeId) : Option Value := (P.info? t).bnd fun i => i.zero.bnd fun v => guardB (flat2 v) (some v)
def zerosB (P : Program) (t : TypeId) : Option (List Value) := (zeroB P t).bnd fun v => some v.cells.toList

def takeN {α : Type} : Nat → List α → Option (List α)
  | 0, _ => some []
  | n + 1, x :: xs => (takeN n xs).bnd fun ys => some (x :: ys)
  | _ + 1, [] => none
/-- new ones over the first old ones -/
def overB {α : Type} : List α → List α → Option (List α)
  | [], old => some old
  | v :: new, _ :: old => (overB new old).bnd fun r => some (v :: r)
  | _ :: _, [] => none
/-- new ones over the old ones from the n-th on -/
def putN {α : Type} : Nat → List α → List α → Option (List α)
  | 0, new, old => overB new old
  | n + 1, new, x :: old => (putN n new old).bnd fun r => some (x :: r)
  | _ + 1, _, [] => none
def optMap {α β : Type} (f : α → Option β) : List α → Option (List β)
  | [] => some []
  | x :: xs => (f x).bnd fun y => (optMap f xs).bnd fun ys => some (y :: ys)
def repN {α : Type} (xs : List α) : Nat → List α
  | 0 => []
  | n + 1 => xs ++ repN xs n

/-- a value of type t among cells -/
def readB (P : Program) (t : TypeId) (cs : List Value) (off : Nat) : Option Value := (isAggB P t).bnd fun g => match g with
  | true => (sizeB P t).bnd fun n => (takeN n (cs.drop off)).bnd fun vs => some (.agg ⟨vs⟩)
  | false => (cs.drop off).head?
def loadB (P : Program) (s : S) (t : TypeId) (b o : Nat) : Option Value := (s.obj b).bnd fun c => readB P t c.cs o
def writeB (s : S) (b o : Nat) (vs : List Value) : Option S :=
  guardB (s.wr b) ((s.obj b).bnd fun c => (putN o vs c.cs).bnd fun cs => some (s.put b (some (.cells ⟨cs, c.elem, c.more⟩))))
def storeB (P : Program) (s : S) (t : TypeId) (b o : Nat) (v : Value) : Option S := (sizeB P t).bnd fun n =>
  guardB (Nat.beq v.cells.toList.length n) (guardB (v.cells.toList.all cellB) (writeB s b o v.cells.toList))

abbrev CallB := Value → List Value → S → Option (Value × S)
abbrev Res := Option (Value × S)

/-- low and high, with 0 ≤ low ≤ high ≤ cap -/
def boundsB (tm : Ctx) (len cap : Nat) (low high : Option Operand) : Option (Nat × Nat) :=
  (match high with
    | none => some (Int.ofNat len)
    | some x => (opnd tm x).bnd intOf).bnd fun h =>
  (match low with
    | none => some (Int.ofNat (nat_lit 0))
    | some x => (opnd tm x).bnd intOf).bnd fun l =>
  guardB (decide (0 ≤ l)) (guardB (decide (l ≤ h)) (guardB (decide (h ≤ Int.ofNat cap)) (some (l.toNat, h.toNat))))

/-- parts laid into cells -/
def fillB (place : Nat → Option (Nat × Nat)) (cells : List Value) : List (Nat × Value) → Option (List Value)
  | [] => some cells
  | (i, v) :: rest => (place i).bnd fun p => guardB (Nat.beq v.cells.toList.length p.2) (guardB (v.cells.toList.all cellB) ((putN p.1 v.cells.toList cells).bnd fun cs => fillB place cs rest))
def partsB (tm : Ctx) : List (Nat × Operand) → Option (List (Nat × Value))
  | [] => some []
  | (i, x) :: ps => (opnd tm x).bnd fun v => (partsB tm ps).bnd fun vs => some ((i, v) :: vs)

/-- the first n elements (of size cells) of a slice, or the first n bytes of a string -/
def firstB (s : S) (size n : Nat) (v : Value) : Option (List Value) := match v with
  | .string b => some ((b.extract 0 n).data.toList.map fun x => .int .u8 x.toNat)
  | v => (sliceOf v).bnd fun p => match p.1 with
    | none => match n with
      | 0 => some []
      | _ + 1 => none
    | some a => (s.obj a.1).bnd fun c => takeN (Nat.mul n size) (c.cs.drop a.2)
def lenB : Value → Option Nat
  | .slice _ n _ => some n
  | .string b => some b.size
  | _ => none

/-- the elements that an append lays behind the others: none of a slice without elements, wherever it is -/
def firstY (s : S) (size n : Nat) (v : Value) : Option (List Value) := match n with
  | 0 => (lenB v).bnd fun _ => some []
  | n + 1 => firstB s size (n + 1) v
/-- a slice without elements, somewhere -/
def mtv : Value := .slice (some ⟨nat_lit 0, nat_lit 0, some (nat_lit 0)⟩) (nat_lit 0) (nat_lit 0)
def aslice (b o n c : Nat) : Value := .slice (some ⟨b, o, none⟩) n c

/-- cells behind those that are known, in the room that there is -/
def extendB (s : S) (size b o : Nat) (new : List Value) : Option S :=
  guardB (s.wr b) ((s.obj b).bnd fun c => c.more.bnd fun sz => guardB (Nat.beq sz size) (guardB (Nat.beq o c.cs.length) (some (s.put b (some (.cells ⟨c.cs ++ new, c.elem, c.more⟩))))))
/-- append with room -/
def appendIn (s : S) (size : Nat) (base : Option (Nat × Nat)) (len n cap : Nat) (new : List Value) : Res := match base with
  | none => some (.slice none (Nat.add len n) cap, s)
  | some a => match writeB s a.1 (Nat.add a.2 (Nat.mul len size)) new with
    | some s => some (aslice a.1 a.2 (Nat.add len n) cap, s)
    | none => guardB (Nat.beq new.length (Nat.mul n size)) ((extendB s size a.1 (Nat.add a.2 (Nat.mul len size)) new).bnd fun s => some (aslice a.1 a.2 (Nat.add len n) cap, s))
/-- append without room -/
def appendOut (s : S) (elem : TypeId) (size : Nat) (x : Value) (base : Option (Nat × Nat)) (len n : Nat) (new : List Value) : Res :=
  (firstB s size len x).bnd fun old => match base with
    | none => some (aslice s.nx (nat_lit 0) (Nat.add len n) (Nat.add len n), s.add (.cells ⟨new, elem, some size⟩))
    | some a => (s.obj a.1).bnd fun c => match c.more with
      | none => some (aslice s.nx (nat_lit 0) (Nat.add len n) (Nat.add len n), s.add (.cells ⟨old ++ new, elem, some size⟩))
      | some sz => guardB (s.wr a.1) (guardB (Nat.beq a.2 (nat_lit 0)) (guardB (Nat.beq sz size) (guardB (Nat.beq c.elem elem)
          (some (aslice s.nx (nat_lit 0) (Nat.add len n) (Nat.add len n), (s.put a.1 none).add (.cells ⟨old ++ new, elem, some size⟩))))))
def appendB (P : Program) (s : S) (t : TypeId) (x y : Value) : Res :=
  (sliceElem P t).bnd fun elem => (P.info? elem).bnd fun info => (sliceOf x).bnd fun p => (lenB y).bnd fun n => (firstY s info.size n y).bnd fun new =>
    match Nat.ble (Nat.add p.2.1 n) p.2.2 with
    | true => appendIn s info.size p.1 p.2.1 n p.2.2 new
    | false => guardB (Nat.ble (Nat.add p.2.1 n) (nat_lit 100000)) (guardB (Nat.ble info.bytes (nat_lit 1000)) (guardB (Nat.beq new.length (Nat.mul n info.size)) ((zerosB P elem).bnd fun z =>
        guardB (Nat.beq z.length info.size) (appendOut s elem info.size x p.1 p.2.1 n new))))

/-- copy -/
def copyB (P : Program) (s : S) (t : TypeId) (x y : Value) : Res :=
  (sliceElem P t).bnd fun elem => (P.info? elem).bnd fun info => (sliceOf x).bnd fun p => (lenB y).bnd fun n => (firstB s info.size (Nat.min n p.2.1) y).bnd fun new =>
    match p.1 with
    | none => some (goInt (Int.ofNat (Nat.min n p.2.1)), s)
    | some a => (writeB s a.1 a.2 new).bnd fun s => some (goInt (Int.ofNat (Nat.min n p.2.1)), s)

/-- append(nil, make([]T, n)...) -/
def appendNil (P : Program) (s : S) (t : TypeId) (l : Int) : Res :=
  (sliceElem P t).bnd fun elem => (P.info? elem).bnd fun info => guardB (decide (0 < l)) (guardB (Nat.ble l.toNat (nat_lit 100000)) (guardB (Nat.ble info.bytes (nat_lit 1000)) ((zerosB P elem).bnd fun z =>
    guardB (Nat.beq z.length info.size) (some (aslice s.nx (nat_lit 0) l.toNat l.toNat, s.add (.cells ⟨repN z l.toNat, elem, some info.size⟩))))))

/-- the kinds of keys that are compared at once -/
def keyKind (P : Program) (t : TypeId) : Option TypeDesc := (P.underlying t).bnd fun d => match d with
  | .int k => some (.int k)
  | .string => some .string
  | .bool => some .bool
  | _ => none
def findKeyB (d : TypeDesc) (k : Value) : List (Value × Value) → Option (Option Value)
  | [] => some none
  | (x, v) :: es => (Instr.sameNow d k x).bnd fun b => match b with
    | true => some (some v)
    | false => findKeyB d k es
def putKey (d : TypeDesc) (k v : Value) : List (Value × Value) → Option (List (Value × Value))
  | [] => some [(k, v)]
  | (x, u) :: es => (Instr.sameNow d k x).bnd fun b => match b with
    | true => some ((k, v) :: es)
    | false => (putKey d k v es).bnd fun es => some ((x, u) :: es)
/-- a key that is a struct: the model's own comparison, asked one entry after another -/
def askKey (P : Program) (t : TypeId) (k : Value) : Bool := (match P.underlying t with
  | some (.struct _) => true
  | _ => false) && (flat2 k && ((pureOf P (Instr.checkKey true 10000 t k)).isSome && (pureOf P (Instr.checkKey false 10000 t k)).isSome))
def findAskB (P : Program) (t : TypeId) (k : Value) : List (Value × Value) → Option (Option Value)
  | [] => some none
  | (x, v) :: es => (pureOf P (Op.equal t k x)).bnd fun b => match b with
    | true => some (some v)
    | false => findAskB P t k es
def putAsk (P : Program) (t : TypeId) (k v : Value) : List (Value × Value) → Option (List (Value × Value))
  | [] => some [(k, v)]
  | (x, u) :: es => (pureOf P (Op.equal t k x)).bnd fun b => match b with
    | true => guardB (Instr.sameBits 10000 x k) (some ((k, v) :: es))
    | false => (putAsk P t k v es).bnd fun es => some ((x, u) :: es)
/-- the look-up among the entries, and the put, for both kinds of keys -/
def findB (P : Program) (t : TypeId) (k : Value) (es : List (Value × Value)) : Option (Option Value) := match keyKind P t with
  | some d => guardB (flat1 k) (findKeyB d k es)
  | none => guardB (askKey P t k) (findAskB P t k es)
def putB' (P : Program) (t : TypeId) (k v : Value) (es : List (Value × Value)) : Option (List (Value × Value)) := match keyKind P t with
  | some d => guardB (flat1 k) (putKey d k v es)
  | none => guardB (askKey P t k) (putAsk P t k v es)
def mapAt (s : S) (r : Nat) : Option (List (Value × Value)) := (s.any r).bnd fun o => match o with
  | .map es => some es
  | _ => none

/-! ### Operations -/
def opMove (tm : Ctx) (s : S) (x : Operand) : Res := (opnd tm x).bnd fun v => some (v, s)
def opPick (tm : Ctx) (s : S) (c a b : Operand) : Res := ((opnd tm c).bnd boolOf).bnd fun g => match g with
  | true => opMove tm s a
  | false => opMove tm s b
def opAlloc (P : Program) (s : S) (elem : TypeId) : Res := (zerosB P elem).bnd fun cs => some (s.new ⟨cs, elem, none⟩)
def opBox (tm : Ctx) (s : S) (elem : TypeId) (x : Operand) : Res := (opnd tm x).bnd fun v => guardB (v.cells.toList.all cellB) (some (s.new ⟨v.cells.toList, elem, none⟩))
def opLoad (P : Program) (tm : Ctx) (s : S) (t : TypeId) (a : Operand) : Res :=
  ((opnd tm a).bnd ptrOf).bnd fun p => (loadB P s t p.1 p.2).bnd fun v => some (v, s)
def opStore (P : Program) (tm : Ctx) (s : S) (t : TypeId) (a x : Operand) : Res :=
  ((opnd tm a).bnd ptrOf).bnd fun p => (opnd tm x).bnd fun v => (storeB P s t p.1 p.2 v).bnd fun s => some (undef, s)
def opNilCheck (tm : Ctx) (s : S) (x : Operand) : Res := (opnd tm x).bnd fun v => guardB ((ptrOf v).isSome || (cloOf v).isSome) (some (v, s))
def opFieldAddr (P : Program) (tm : Ctx) (s : S) (t : TypeId) (x : Operand) (f : Nat) : Res :=
  (structFields P t).bnd fun fs => ((opnd tm x).bnd ptrOf).bnd fun p => (fs[f]?).bnd fun fd => (sizeB P fd.type).bnd fun n => match n with
    | 0 => none
    | _ + 1 => some (ptr p.1 (Nat.add p.2 fd.offset), s)
def opField (P : Program) (tm : Ctx) (s : S) (t : TypeId) (x : Operand) (f : Nat) : Res :=
  (structFields P t).bnd fun fs => ((opnd tm x).bnd aggOf).bnd fun cs => (fs[f]?).bnd fun fd => (readB P fd.type cs fd.offset).bnd fun v => some (v, s)
def indexIn (len : Nat) (i : Int) : Option Nat := guardB (decide (0 ≤ i)) (guardB (decide (i < Int.ofNat len)) (some i.toNat))
def opIndexAddr (P : Program) (tm : Ctx) (s : S) (t : TypeId) (x i : Operand) : Res :=
  (opnd tm x).bnd fun v => ((opnd tm i).bnd intOf).bnd fun i => match v with
    | .slice .. => (sliceElem P t).bnd fun e => (sizeB P e).bnd fun n => (sliceOf v).bnd fun p => p.1.bnd fun a => (indexIn p.2.1 i).bnd fun k => some (ptr a.1 (Nat.add a.2 (Nat.mul k n)), s)
    | _ => (arrayElem P t).bnd fun e => (sizeB P e.2).bnd fun n => (ptrOf v).bnd fun a => (indexIn e.1 i).bnd fun k => some (ptr a.1 (Nat.add a.2 (Nat.mul k n)), s)
def opIndexAgg (P : Program) (tm : Ctx) (s : S) (t : TypeId) (cs : List Value) (i : Operand) : Res :=
  ((opnd tm i).bnd intOf).bnd fun i => (arrayElem P t).bnd fun e => (sizeB P e.2).bnd fun n => (indexIn e.1 i).bnd fun k => (readB P e.2 cs (Nat.mul k n)).bnd fun v => some (v, s)
def opExtract (tm : Ctx) (s : S) (t : Operand) (i : Nat) : Res := ((opnd tm t).bnd tupleOf).bnd fun vs => (vs[i]?).bnd fun v => some (v, s)
def opMakeFunc (tm : Ctx) (s : S) (f : FuncId) (first caps : List Operand) : Res :=
  (optMap (opnd tm) first).bnd fun fs => guardB (fs.all boundB) ((optMap (opnd tm) caps).bnd fun vs => guardB (vs.all ptrB) (some (.func (.func f) ⟨fs⟩ ⟨vs⟩, s)))
def opSliceSlice (P : Program) (tm : Ctx) (s : S) (t : TypeId) (v : Value) (lo hi : Option Operand) : Res :=
  (sliceElem P t).bnd fun e => (sizeB P e).bnd fun n => (sliceOf v).bnd fun p => (boundsB tm p.2.1 p.2.2 lo hi).bnd fun lh => match p.1 with
    | none => some (.slice none (Nat.sub lh.2 lh.1) (Nat.sub p.2.2 lh.1), s)
    | some a => (s.obj a.1).bnd fun c => guardB (match c.more with | none => true | some sz => Nat.beq sz n) (match Nat.beq lh.1 p.2.2 with
      | true => match c.more with
        | none => some (aslice a.1 a.2 (nat_lit 0) (nat_lit 0), s)
        | some _ => some (mtv, s)
      | false => some (aslice a.1 (Nat.add a.2 (Nat.mul lh.1 n)) (Nat.sub lh.2 lh.1) (Nat.sub p.2.2 lh.1), s))
def opSliceArray (P : Program) (tm : Ctx) (s : S) (t : TypeId) (v : Value) (lo hi : Option Operand) : Res :=
  (arrayElem P t).bnd fun e => (sizeB P e.2).bnd fun n => (ptrOf v).bnd fun a => (boundsB tm e.1 e.1 lo hi).bnd fun lh => (s.obj a.1).bnd fun c => guardB c.more.isNone (
    match Nat.beq lh.1 e.1 with
    | true => some (aslice a.1 a.2 (nat_lit 0) (nat_lit 0), s)
    | false => some (aslice a.1 (Nat.add a.2 (Nat.mul lh.1 n)) (Nat.sub lh.2 lh.1) (Nat.sub e.1 lh.1), s))
def opMakeSlice (P : Program) (tm : Ctx) (s : S) (t : TypeId) (l c : Operand) : Res :=
  (sliceElem P t).bnd fun e => (P.info? e).bnd fun info => (zerosB P e).bnd fun zero => ((opnd tm l).bnd intOf).bnd fun l => ((opnd tm c).bnd intOf).bnd fun c =>
    guardB (decide (0 ≤ l)) (guardB (decide (l ≤ c)) (guardB (decide (c ≤ 100000)) (guardB (Nat.ble info.bytes (nat_lit 1000)) (guardB (Nat.beq zero.length info.size)
      (some (aslice s.nx (nat_lit 0) l.toNat c.toNat, s.add (.cells ⟨repN zero c.toNat, e, none⟩)))))))
def opBuildSlice (P : Program) (tm : Ctx) (s : S) (t : TypeId) (len : Nat) (parts : List (Nat × Operand)) : Res :=
  (sliceElem P t).bnd fun e => (sizeB P e).bnd fun size => (zerosB P e).bnd fun zero => (partsB tm parts).bnd fun ps =>
    guardB (Nat.ble (Nat.mul len size) (nat_lit 100000)) (guardB (Nat.beq zero.length size) ((fillB (fun i => some (Nat.mul i size, size)) (repN zero len) ps).bnd fun cs =>
      some (aslice s.nx (nat_lit 0) len len, s.add (.cells ⟨cs, e, none⟩))))
def placesB (P : Program) (fs : List Field) (i : Nat) : Option (Nat × Nat) := (fs[i]?).bnd fun f => (sizeB P f.type).bnd fun n => some (f.offset, n)
def opBuildStruct (P : Program) (tm : Ctx) (s : S) (fs : List Field) (zero : List Value) (parts : List (Nat × Operand)) : Res :=
  guardB (fs.all fun f => (sizeB P f.type).isSome) ((partsB tm parts).bnd fun ps => (fillB (placesB P fs) zero ps).bnd fun cs => some (.agg ⟨cs⟩, s))
def opBuildArray (P : Program) (tm : Ctx) (s : S) (e : TypeId) (zero : List Value) (parts : List (Nat × Operand)) : Res :=
  (sizeB P e).bnd fun n => (partsB tm parts).bnd fun ps => (fillB (fun i => some (Nat.mul i n, n)) zero ps).bnd fun cs => some (.agg ⟨cs⟩, s)
def opBuild (P : Program) (tm : Ctx) (s : S) (t : TypeId) (parts : List (Nat × Operand)) : Res :=
  (zerosB P t).bnd fun zero => (P.underlying t).bnd fun d => match d with
    | .struct fs => opBuildStruct P tm s fs.toList zero parts
    | .array _ e => opBuildArray P tm s e zero parts
    | _ => none
/-- an operation that does not look at memory, of values without an address -/
def opPure (P : Program) (tm : Ctx) (s : S) (o : Oper) : Res :=
  (optMap (opnd tm) o.op.operands.toList).bnd fun vs => guardB (vs.all flat) ((pureOf P (execOp (fun x => (opnd tm x).getD undef) o)).bnd fun r => match r with
    | .value v => guardB (flat v) (some (v, s))
    | _ => none)
/-- an address that is compared with nil -/
def notNil (P : Program) (t : TypeId) (a b : Value) : Bool := match b with
  | .slice none _ _ => (sliceElem P t).isSome && match a with
    | .slice (some _) _ _ => true
    | _ => false
  | .map none => (mapTypes P t).isSome && match a with
    | .map (some _) => true
    | _ => false
  | .pointer none => (match P.underlying t with
    | some (.pointer _) => true
    | _ => false) && match a with
    | .pointer (some _) => true
    | _ => false
  | .nilFunc => (match P.underlying t with
    | some (.func ..) => true
    | _ => false) && match a with
    | .func .. => true
    | _ => false
  | _ => false
/-- one and the same address -/
def samePtr (P : Program) (t : TypeId) (a b : Value) : Bool := match a, b with
  | .pointer (some ⟨r, i, none⟩), .pointer (some ⟨q, j, none⟩) => Nat.beq r q && Nat.beq i j && (match P.underlying t with
    | some (.pointer te) => (P.info? te).isSome
    | _ => false)
  | _, _ => false
def opBin (P : Program) (tm : Ctx) (s : S) (o : Oper) (b : BinOp) (t : TypeId) (x y : Operand) : Res := (opnd tm x).bnd fun xv => (opnd tm y).bnd fun yv => match notNil P t xv yv with
  | false => match samePtr P t xv yv with
    | true => match b with
      | .neq => some (.bool false, s)
      | _ => none
    | false => opPure P tm s o
  | true => match b with
    | .eql => some (.bool false, s)
    | .neq => some (.bool true, s)
    | _ => none
def opIndex (P : Program) (tm : Ctx) (s : S) (o : Oper) (t : TypeId) (x i : Operand) : Res := (opnd tm x).bnd fun v => match v with
  | .agg cs => opIndexAgg P tm s t cs.toList i
  | _ => opPure P tm s o
def opSlice (P : Program) (tm : Ctx) (s : S) (o : Oper) (t : TypeId) (x : Operand) (lo hi : Option Operand) : Res := (opnd tm x).bnd fun v => match v with
  | .slice .. => opSliceSlice P tm s t v lo hi
  | .pointer _ => opSliceArray P tm s t v lo hi
  | _ => opPure P tm s o
/-- x[l:h:m] of a slice -/
def opSlice3 (P : Program) (tm : Ctx) (s : S) (t : TypeId) (x : Operand) (lo : Option Operand) (hi mx : Operand) : Res := (opnd tm x).bnd fun v =>
  (sliceElem P t).bnd fun e => (sizeB P e).bnd fun n => (sliceOf v).bnd fun p => ((opnd tm mx).bnd intOf).bnd fun m => guardB (decide (0 ≤ m)) (guardB (decide (m ≤ Int.ofNat p.2.2)) ((boundsB tm p.2.1 m.toNat lo (some hi)).bnd fun lh => match p.1 with
    | none => some (.slice none (Nat.sub lh.2 lh.1) (Nat.sub m.toNat lh.1), s)
    | some a => (s.obj a.1).bnd fun c => guardB (match c.more with | none => true | some sz => Nat.beq sz n) (match Nat.beq lh.1 m.toNat with
      | true => some (mtv, s)
      | false => some (aslice a.1 (Nat.add a.2 (Nat.mul lh.1 n)) (Nat.sub lh.2 lh.1) (Nat.sub m.toNat lh.1), s))))
def opRange (tm : Ctx) (s : S) (P : Program) (t : TypeId) (x : Operand) : Res := (P.underlying t).bnd fun d => match d with
  | .string => ((opnd tm x).bnd strOf).bnd fun b => some (ptr s.nx (nat_lit 0), s.add (.iter b (nat_lit 0)))
  | _ => none
def opNext (tm : Ctx) (s : S) (x : Operand) : Res := ((opnd tm x).bnd ptrOf).bnd fun p =>
  guardB (Nat.beq p.2 (nat_lit 0)) (guardB (s.wr p.1) ((s.any p.1).bnd fun o => match o with
    | .iter b pos => match Nat.blt pos b.size with
      | true => some (.tuple #[.bool true, goInt (Int.ofNat pos), .int .i32 (Utf8.decode b pos).1], s.put p.1 (some (.iter b (Nat.add pos (Utf8.decode b pos).2))))
      | false => some (.tuple #[.bool false], s)
    | _ => none))
def opMakeMap (P : Program) (tm : Ctx) (s : S) (t : TypeId) (r : Option Operand) : Res := match r with
  | none => some (.map (some s.nx), s.add (.map []))
  | some x => (mapTypes P t).bnd fun _ => ((opnd tm x).bnd intOf).bnd fun _ => some (.map (some s.nx), s.add (.map []))
def opMapUpdate (P : Program) (tm : Ctx) (s : S) (t : TypeId) (m k x : Operand) : Res :=
  (mapTypes P t).bnd fun kt => ((opnd tm m).bnd mapOf).bnd fun m => m.bnd fun r => (opnd tm k).bnd fun k => (opnd tm x).bnd fun v =>
    guardB (varB v) (guardB (s.wr r) ((mapAt s r).bnd fun es => (putB' P kt.1 k v es).bnd fun es => some (undef, s.put r (some (.map es)))))
def mapRead (s : S) (m : Option Nat) : Option (List (Value × Value)) := match m with
  | none => some []
  | some r => mapAt s r
def okB (ok : Bool) (v : Value) (b : Bool) : Value := match ok with
  | true => .tuple #[v, .bool b]
  | false => v
def opLookup (P : Program) (tm : Ctx) (s : S) (t : TypeId) (m k : Operand) (ok : Bool) : Res :=
  (mapTypes P t).bnd fun kt => ((opnd tm m).bnd mapOf).bnd fun m => (opnd tm k).bnd fun k => (mapRead s m).bnd fun es => (findB P kt.1 k es).bnd fun r => match r with
    | some v => some (okB ok v true, s)
    | none => (zeroB P kt.2).bnd fun z => some (okB ok z false, s)
def opAppend (P : Program) (tm : Ctx) (s : S) (ts : List TypeId) (args : List Operand) : Res := match ts, args with
  | [t, t2], [x, y] => (P.underlying t2).bnd fun d => match d with
    | .slice _ | .string => (opnd tm x).bnd fun x => (opnd tm y).bnd fun y => appendB P s t x y
    | .int _ => (opnd tm x).bnd fun x => ((opnd tm y).bnd intOf).bnd fun l => match sliceOf x with
      | some (none, 0, 0) => appendNil P s t l
      | _ => none
    | _ => none
  | _, _ => none
def opCopy (P : Program) (tm : Ctx) (s : S) (ts : List TypeId) (args : List Operand) : Res := match ts, args with
  | [t, _], [x, y] => (opnd tm x).bnd fun x => (opnd tm y).bnd fun y => copyB P s t x y
  | _, _ => none
/-- []byte of a string: a new row, whose capacity is not known -/
def isU8 (P : Program) (e : TypeId) : Bool := match P.underlying e with
  | some (.int .u8) => true
  | _ => false
/-- bytes among cells -/
def byteOf : Value → Option UInt8
  | .int .u8 n => guardB (decide (Int.ofNat (UInt8.ofNat n.toNat).toNat = n)) (some (UInt8.ofNat n.toNat))
  | _ => none
def isElem (c : Cs) (e : TypeId) : Bool := Nat.beq c.elem e
/-- string of a []byte -/
def opBytesStr (tm : Ctx) (s : S) (x : Operand) : Res :=
  (opnd tm x).bnd fun v => (sliceOf v).bnd fun p => (firstY s (nat_lit 1) p.2.1 v).bnd fun vs => (optMap byteOf vs).bnd fun l => some (.string ⟨⟨l⟩⟩, s)
/-- a pointer turned into an unsafe one -/
def opToUnsafe (P : Program) (tm : Ctx) (s : S) (t : TypeId) (x : Operand) : Res :=
  (opnd tm x).bnd fun v => (ptrOf v).bnd fun p => (s.obj p.1).bnd fun c => (sizeB P t).bnd fun n => guardB (Nat.blt p.2 c.cs.length) (guardB (!Nat.beq n (nat_lit 0)) (some (v, s)))
/-- .. and back -/
def opFromUnsafe (P : Program) (tm : Ctx) (s : S) (u : TypeId) (x : Operand) : Res :=
  (opnd tm x).bnd fun v => (ptrOf v).bnd fun p => (s.obj p.1).bnd fun c => (sizeB P u).bnd fun _ =>
    guardB (c.more.isNone) (guardB (liesAt P P.depth c.elem (Nat.div c.cs.length (P.cellsOf c.elem)) p.2 u (nat_lit 1)) (some (v, s)))
def opConvert (P : Program) (tm : Ctx) (s : S) (o : Oper) (src dst : TypeId) (x : Operand) : Res := match P.underlying dst with
  | some (.slice e) => (opnd tm x).bnd fun v => (strOf v).bnd fun b => (P.underlying src).bnd fun _ => guardB (isU8 P e)
      (some (aslice s.nx (nat_lit 0) b.size b.size, s.add (.cells ⟨b.data.toList.map fun c => .int .u8 c.toNat, e, some (nat_lit 1)⟩)))
  | some .string => match P.underlying src with
    | some (.slice e) => guardB (isU8 P e) (opBytesStr tm s x)
    | _ => opPure P tm s o
  | some .unsafePointer => match P.underlying src with
    | some (.pointer t) => opToUnsafe P tm s t x
    | _ => opPure P tm s o
  | some (.pointer u) => match P.underlying src with
    | some .unsafePointer => opFromUnsafe P tm s u x
    | _ => opPure P tm s o
  | _ => opPure P tm s o
def opCap (P : Program) (tm : Ctx) (s : S) (ts : List TypeId) (args : List Operand) : Res := match ts, args with
  | [t], [x] => (opnd tm x).bnd fun v => (sliceElem P t).bnd fun _ => (sliceOf v).bnd fun p => match p.1 with
    | none => some (goInt (Int.ofNat p.2.2), s)
    | some a => (s.obj a.1).bnd fun c => guardB (c.more.isNone) (some (goInt (Int.ofNat p.2.2), s))
  | _, _ => none
def opSliceData (tm : Ctx) (s : S) (args : List Operand) : Res := match args with
  | [x] => (opnd tm x).bnd fun v => (sliceOf v).bnd fun p => match p.1 with
    | none => some (.pointer none, s)
    | some a => guardB (!Nat.beq p.2.2 (nat_lit 0)) (some (ptr a.1 a.2, s))
  | _ => none
/-- a string of the bytes at an address; they are frozen: the row is known no more -/
def opUnsafeStr (P : Program) (tm : Ctx) (s : S) (ts : List TypeId) (args : List Operand) : Res := match ts, args with
  | [pt, _], [x, y] => (opnd tm x).bnd fun v => (opnd tm y).bnd fun k => match k with
    | .int .i64 i => match i with
      | .ofNat 0 => match v with
        | .pointer _ => some (.string ⟨⟨[]⟩⟩, s)
        | _ => none
      | .ofNat (n + 1) => (ptrOf v).bnd fun p => guardB (Nat.beq p.2 (nat_lit 0)) (guardB (s.wr p.1) ((s.obj p.1).bnd fun c => (P.underlying pt).bnd fun d => match d with
        | .pointer e => guardB (isElem c e) (guardB (Nat.beq (P.cellsOf e) (nat_lit 1)) (guardB (Nat.ble (n + 1) (nat_lit 100000)) ((takeN (n + 1) c.cs).bnd fun vs => (optMap byteOf vs).bnd fun l => some (.string ⟨⟨l⟩⟩, s.put p.1 none))))
        | _ => none))
      | _ => none
    | _ => none
  | _, _ => none
def oneOf : List TypeId → Option TypeId
  | [t] => some t
  | _ => none
/-- functions of the library without a body -/
def opExtern (P : Program) (tm : Ctx) (s : S) (f : FuncId) (args : List Operand) : Res := (P.funcs[f]?).bnd fun fn => guardB (fn.body.isNone && (Extern.findNext fn).isNone) (match fn.name == "internal/abi.NoEscape" with
  | true => (optMap (opnd tm) args).bnd fun vs => match vs with
    | [v] => guardB (varB v) (some (v, s))
    | _ => none
  | false => match fn.name == "internal/bytealg.MakeNoZero" with
    | true => (optMap (opnd tm) args).bnd fun vs => match vs with
      | [.int .i64 n] => (oneOf fn.resultTypes.toList).bnd fun t => (sliceElem P t).bnd fun e => guardB (decide (0 ≤ n)) (guardB (Nat.ble n.toNat (nat_lit 100000)) (some (aslice s.nx (nat_lit 0) n.toNat n.toNat, s.add (.cells ⟨[], e, some (nat_lit 1)⟩))))
      | _ => none
    | false => none)
def opLen (P : Program) (tm : Ctx) (s : S) (o : Oper) (ts : List TypeId) (args : List Operand) : Res := match ts, args with
  | [t], [x] => (opnd tm x).bnd fun v => match v with
    | .slice _ n _ => (sliceElem P t).bnd fun _ => some (goInt (Int.ofNat n), s)
    | .map m => (mapTypes P t).bnd fun _ => (mapRead s m).bnd fun es => some (goInt (Int.ofNat es.length), s)
    | _ => opPure P tm s o
  | _, _ => none
def opCall (P : Program) (call : CallB) (tm : Ctx) (s : S) (o : Oper) (f : Operand) (args : List Operand) : Res :=
  (opnd tm f).bnd fun v => match cloOf v with
    | some c => ((P.funcs[c.1]?).bnd fun fn => some fn.body.isSome).bnd fun has => match has with
      | true => (optMap (opnd tm) args).bnd fun vs => call (.func (.func c.1) #[] #[]) (c.2.1 ++ (vs ++ c.2.2)) s
      | false => match opPure P tm s o with
        | some r => some r
        | none => match c.2.1, c.2.2 with
          | [], [] => opExtern P tm s c.1 args
          | _, _ => none
    | none => (yieldOf v).bnd fun _ => (optMap (opnd tm) args).bnd fun vs => call v vs s

/-- one operation -/
def opB (P : Program) (call : CallB) (tm : Ctx) (s : S) (o : Oper) : Res := match o.op with
  | .move x => opMove tm s x
  | .assign x => opMove tm s x
  | .pick c a b => opPick tm s c a b
  | .alloc elem => opAlloc P s elem
  | .box elem x => opBox tm s elem x
  | .load t a => opLoad P tm s t a
  | .store t a x => opStore P tm s t a x
  | .nilCheck x => opNilCheck tm s x
  | .fieldAddr t x f => opFieldAddr P tm s t x f
  | .field t x f => opField P tm s t x f
  | .indexAddr t x i => opIndexAddr P tm s t x i
  | .index t x i => opIndex P tm s o t x i
  | .extract t i => opExtract tm s t i
  | .makeFunc (.func f) first caps => opMakeFunc tm s f first.toList caps.toList
  | .slice t x lo hi none => opSlice P tm s o t x lo hi
  | .slice t x lo (some hi) (some mx) => opSlice3 P tm s t x lo hi mx
  | .makeSlice t l c => opMakeSlice P tm s t l c
  | .buildSlice t len parts => opBuildSlice P tm s t len parts.toList
  | .build t parts => opBuild P tm s t parts.toList
  | .range t x => opRange tm s P t x
  | .next x true => opNext tm s x
  | .makeMap t r => opMakeMap P tm s t r
  | .insert t m k x => opMapUpdate P tm s t m k x
  | .mapUpdate t m k x => opMapUpdate P tm s t m k x
  | .lookup t m k ok => opLookup P tm s t m k ok
  | .convert src dst x => opConvert P tm s o src dst x
  | .call ⟨.builtin .append, args, ts⟩ => opAppend P tm s ts.toList args.toList
  | .call ⟨.builtin .copy, args, ts⟩ => opCopy P tm s ts.toList args.toList
  | .call ⟨.builtin .cap, args, ts⟩ => opCap P tm s ts.toList args.toList
  | .call ⟨.builtin .unsafeSliceData, args, _⟩ => opSliceData tm s args.toList
  | .call ⟨.builtin .unsafeString, args, ts⟩ => opUnsafeStr P tm s ts.toList args.toList
  | .call ⟨.builtin .len, args, ts⟩ => opLen P tm s o ts.toList args.toList
  | .call ⟨.value f, args, _⟩ => opCall P call tm s o f args.toList
  | .binOp b t x y _ => opBin P tm s o b t x y
  | .defer _ => none
  | .select _ _ => none
  | _ => opPure P tm s o

def Ctx.set (tm : Ctx) (d : Nat) (v : Value) : Option Ctx := guardB (Nat.blt d tm.n) (some ⟨tm.t.set d (some v), tm.n, tm.marks⟩)
def putB (tm : Ctx) (dst : Option Tmp) (v : Value) : Option Ctx := match dst with
  | some d => tm.set d v
  | none => some tm

/-- whether an operation with a guard is wanted -/
def wantedB (tm : Ctx) (ops : List Oper) (o : Oper) : Option Bool := match o.guard with
  | none => some true
  | some g => (ops[g.1]?).bnd fun x => x.dst.bnd fun d => (tm.t.get d).bnd fun v => match v with
    | .bool b => some (b == g.2)
    | _ => some false

def op1B (P : Program) (call : CallB) (all : List Oper) (tm : Ctx) (s : S) (o : Oper) : Res := (wantedB tm all o).bnd fun wd => match wd with
  | true => opB P call tm s o
  | false => some (undef, s)

/-- operations one after another -/
def opsB (P : Program) (call : CallB) (all : List Oper) : List Oper → Ctx → S → Option (Ctx × S)
  | [], tm, s => some (tm, s)
  | o :: rest, tm, s => (op1B P call all tm s o).bnd fun r => (putB tm o.dst r.1).bnd fun tm => opsB P call all rest tm r.2

/-! ### A region whose order is drawn: each operation looks only at what it depends on -/
def edgeMask (masks : List Nat) (es : List Edge) : Nat := es.foldl (fun m e => match Region.binds .any e with
  | true => Nat.lor (Nat.lor m (Nat.pow 2 e.on)) (masks.getD e.on 0)
  | false => m) 0
def masksB : List Oper → List Nat → List Nat
  | [], acc => acc
  | o :: rest, acc => masksB rest (acc ++ [edgeMask acc o.after.toList])
def bit (m j : Nat) : Bool := Nat.beq (Nat.mod (Nat.div m (Nat.pow 2 j)) 2) 1
/-- the bits of an operation's mask come from its edges; what it looks at, or writes, is written by none but those -/
def drawAt (ops : List Oper) (masks : List Nat) (m i : Nat) (o : Oper) : Bool :=
  (List.range ops.length).all (fun k => !bit (masks.getD i 0) k || (Nat.blt k i && o.after.toList.any fun e => Region.binds .any e && (Nat.beq e.on k || bit (masks.getD e.on 0) k))) &&
  (List.range m).all fun j => match (ops[j]?).bnd (·.dst) with
    | none => true
    | some d => (Nat.beq i j || !(o.dst == some d)) && (!((o.looksAt ⟨ops⟩).contains d) || bit (masks.getD i 0) j || bit (masks.getD j 0) i)
/-- the operations from m on come one after another, behind all others -/
def drawOK (ops : List Oper) (masks : List Nat) (m : Nat) : Bool := Nat.ble m ops.length && (List.range ops.length).all fun i => match ops[i]? with
  | some o => (o.after.toList.all fun e => !Region.binds .any e || Nat.blt e.on i) && match Nat.blt i m with
    | true => drawAt ops masks m i o
    | false => (List.range i).all fun k => o.after.toList.any fun e => Region.binds .any e && (Nat.beq e.on k || (Nat.blt k e.on && bit (masks.getD e.on 0) k))
  | none => false
/-- where the last operations that come one after another begin -/
def sufB (masks : List Nat) : Nat → Nat
  | 0 => 0
  | n + 1 => match Nat.beq (masks.getD n 0) (Nat.sub (Nat.pow 2 n) 1) with
    | true => sufB masks n
    | false => Nat.succ n
def banOf (m : Nat) : List (Nat × Nat) → Nat → List (Nat × Nat) → List (Nat × Nat)
  | [], _, acc => acc
  | iv :: ivs, j, acc => match bit m j with
    | true => banOf m ivs (Nat.succ j) acc
    | false => iv :: banOf m ivs (Nat.succ j) acc
/-- the names that are written by stores (i, r), as an operation j may not see them: it comes neither behind i nor ahead of it -/
def rsvBan (masks : List Nat) (j nx : Nat) : List (Nat × Nat) → List (Nat × Nat) → List (Nat × Nat)
  | [], acc => acc
  | (i, r) :: rs, acc => match Nat.beq i j || bit (masks.getD j 0) i || bit (masks.getD i 0) j || Nat.ble nx r with
    | true => rsvBan masks j nx rs acc
    | false => (r, Nat.succ r) :: rsvBan masks j nx rs acc
/-- what an operation may write to, that was there -/
def target (tm : Ctx) (o : Oper) : Option Nat := match o.op with
  | .store _ a _ => ((opnd tm a).bnd ptrOf).bnd fun p => some p.1
  | .call ⟨.builtin .append, args, _⟩ => match args.toList with
    | x :: _ => ((opnd tm x).bnd sliceOf).bnd fun p => p.1.bnd fun a => some a.1
    | [] => none
  | .call ⟨.builtin .copy, args, _⟩ => match args.toList with
    | x :: _ => ((opnd tm x).bnd sliceOf).bnd fun p => p.1.bnd fun a => some a.1
    | [] => none
  | _ => none
/-- what the operation i may look at -/
def seenBan (masks : List Nat) (rsv : List (Nat × Nat)) (i : Nat) (ivs : List (Nat × Nat)) (s : S) : List (Nat × Nat) := rsvBan masks i s.nx rsv (banOf (masks.getD i 0) ivs 0 s.ban)
/-- whether its target is one that it may write -/
def targetOK (ban : List (Nat × Nat)) (s : S) : Option Nat → Bool
  | none => true
  | some w => s.wr w && !banned ban w && Nat.blt w s.nx
def noteB (i : Nat) (t : Option Nat) (wrs : List (Nat × Nat)) : List (Nat × Nat) := match t with
  | none => wrs
  | some w => (i, w) :: wrs
def freeB (P : Program) (call : CallB) (all : List Oper) (masks : List Nat) (rsv : List (Nat × Nat)) : List Oper → Nat → List (Nat × Nat) → Ctx → S → List (Nat × Nat) → Option (Ctx × S × List (Nat × Nat))
  | [], _, _, tm, s, wrs => some (tm, s, wrs)
  | o :: rest, i, ivs, tm, s, wrs => guardB (targetOK (seenBan masks rsv i ivs s) s (target tm o)) ((op1B P call all tm ⟨s.h, s.nx, s.nx, target tm o, seenBan masks rsv i ivs s⟩ o).bnd fun r => (putB tm o.dst r.1).bnd fun tm' =>
        freeB P call all masks rsv rest (Nat.succ i) (ivs ++ [(s.nx, r.2.nx)]) tm' ⟨r.2.h, r.2.nx, s.lock, s.ext, s.ban⟩ (noteB i (target tm o) wrs))
/-- the stores are found first; then it is run with them -/
def drawB (P : Program) (call : CallB) (all : List Oper) (masks : List Nat) (m : Nat) (tm : Ctx) (s : S) : Option (Ctx × S) :=
  (freeB P call all masks [] (all.take m) 0 [] tm s []).bnd fun r => match r.2.2 with
    | [] => opsB P call all (all.drop m) r.1 r.2.1
    | rsv => (freeB P call all masks rsv (all.take m) 0 [] tm s []).bnd fun r => guardB (r.2.2.all fun x => rsv.contains x) (opsB P call all (all.drop m) r.1 r.2.1)

inductive X where
  | normal
  | exit (id : Nat)
  | ret

abbrev R := Option (X × Ctx × S)
abbrev RecB := Option Nat → Code → Ctx → S → R

def stSeq (rec : Code → Ctx → S → R) (a b : Code) (tm : Ctx) (s : S) : R := (rec a tm s).bnd fun r => match r.1 with
  | .normal => rec b r.2.1 r.2.2
  | _ => some r
def stCond (rec : Code → Ctx → S → R) (c : Operand) (a b : Code) (tm : Ctx) (s : S) : R := ((opnd tm c).bnd boolOf).bnd fun g => match g with
  | true => rec a tm s
  | false => rec b tm s
def stBlock (rec : Code → Ctx → S → R) (id : Nat) (c : Code) (tm : Ctx) (s : S) : R := (rec c tm s).bnd fun r => match r.1 with
  | .exit j => match Nat.beq j id with
    | true => some (.normal, r.2)
    | false => some r
  | _ => some r
def stLoop (rec : Code → Ctx → S → R) (c : Code) (tm : Ctx) (s : S) : R := (rec c tm s).bnd fun r => match r.1 with
  | .normal => rec (.loop c) r.2.1 r.2.2
  | _ => some r
def stRegion (P : Program) (call : CallB) (ops : List Oper) (draw : Bool) (tm : Ctx) (s : S) : R := match draw with
  | false => (opsB P call ops ops tm s).bnd fun r => some (.normal, r.1, r.2)
  | true => guardB (drawOK ops (masksB ops []) (sufB (masksB ops []) ops.length)) ((drawB P call ops (masksB ops []) (sufB (masksB ops []) ops.length) tm s).bnd fun r => some (.normal, r.1, r.2))
/-- behind the function that was ranged over: its loop ends, and a jump that waits is made -/
def stEnd (rec : Code → Ctx → S → R) (l : Nat) (tm : Ctx) (s : S) : R := (s.any l).bnd fun o => match o with
  | .loop st jump tm' n ps as bd => match st with
    | .busy => none
    | _ => match jump with
      | none => some (.normal, tm, s.put l (some (.loop .exhausted none tm' n ps as bd)))
      | some j => rec j tm (s.put l (some (.loop .exhausted (some j) tm' n ps as bd)))
  | _ => none
def isLoop : OV → Bool
  | .loop .. => true
  | _ => false
/-- in front of it: an outermost loop has a mark of its own -/
def stMark (rd : Option Nat) (tm : Ctx) (s : S) : Option (Ctx × S) := match rd with
  | none => some (⟨tm.t, tm.n, s.nx :: tm.marks⟩, s.add .mark)
  | some l => (s.any l).bnd fun o => guardB (isLoop o) (some (tm, s))
def stRange (P : Program) (call : CallB) (rec : Code → Ctx → S → R) (rd : Option Nat) (f : Operand) (ps : List Tmp) (assign body : Code) (tm : Ctx) (s : S) : R :=
  ((opnd tm f).bnd cloOf).bnd fun c => ((P.funcs[c.1]?).bnd fun fn => fn.body).bnd fun _ => (stMark rd tm s).bnd fun m =>
    (call (.func (.func c.1) #[] #[]) (c.2.1 ++ .func (.yield m.2.nx) #[] #[] :: c.2.2) (m.2.add (.loop .ready none tm.t tm.n ps assign body))).bnd fun r => guardB (r.2.wr m.2.nx) (stEnd rec m.2.nx m.1 r.2)

def stepB (P : Program) (call : CallB) (rec : Code → Ctx → S → R) (rd : Option Nat) (c : Code) (tm : Ctx) (s : S) : R := match c with
  | .skip => some (.normal, tm, s)
  | .label _ => some (.normal, tm, s)
  | .region _ ops draw => stRegion P call ops.toList draw tm s
  | .seq a b => stSeq rec a b tm s
  | .cond c a b => stCond rec c a b tm s
  | .block id c => stBlock rec id c tm s
  | .loop c => stLoop rec c tm s
  | .scope c => rec c tm s
  | .exit id => some (.exit id, tm, s)
  | .ret => some (.ret, tm, s)
  | .rangeFunc f ps assign body => stRange P call rec rd f ps.toList assign body tm s
  | .goto _ => none
  | .refuse _ => none

/-! ### Calls -/
def argsB : List Value → Nat → Tr Value → Tr Value
  | [], _, t => t
  | v :: vs, n, t => argsB vs (Nat.succ n) (t.set n (some v))
def resultB (P : Program) (tm : Ctx) (s : S) (r : ResultVar) : Option Value := match r with
  | .tmp t => tm.t.get t
  | .cell a t => ((tm.t.get a).bnd ptrOf).bnd fun p => loadB P s t p.1 p.2
def tupleB (vs : List Value) : Value := match vs with
  | [v] => v
  | vs => .tuple ⟨vs⟩
def resultsB (P : Program) (tm : Ctx) (s : S) (fn : Func) : Option Value := (optMap (resultB P tm s) fn.results.toList).bnd fun vs => guardB (vs.all varB) (some (tupleB vs))
/-- the marks of a frame's loops are taken away -/
def marksB : List Nat → S → Option S
  | [], s => some s
  | r :: rs, s => (s.any r).bnd fun o => match o with
    | .mark => guardB (s.wr r) (marksB rs (s.put r none))
    | _ => none
def leaveB (P : Program) (fn : Func) (r : X × Ctx × S) : Res := match r.1 with
  | .exit _ => none
  | _ => (marksB r.2.1.marks r.2.2).bnd fun s => (resultsB P r.2.1 s fn).bnd fun v => some (v, s)
def enterB (P : Program) (rec : RecB) (fn : Func) (args : List Value) (s : S) : Res :=
  fn.body.bnd fun c => guardB (Nat.ble args.length fn.ntmps) ((rec none c ⟨argsB args (nat_lit 0) .leaf, fn.ntmps, []⟩ s).bnd fun r => leaveB P fn r)
def setAll : List Tmp → List Value → Ctx → Option Ctx
  | [], [], tm => some tm
  | t :: ts, v :: vs, tm => (tm.set t v).bnd fun tm => setAll ts vs tm
  | _, _, _ => none
/-- at a round's end -/
def roundEnd (l : Nat) (x : X) (s : S) : Res := (s.any l).bnd fun o => match o with
  | .loop _ _ tm n ps as bd => match x with
    | .normal => some (.bool true, s.put l (some (.loop .ready none tm n ps as bd)))
    | .ret => some (.bool false, s.put l (some (.loop .done (some .ret) tm n ps as bd)))
    | .exit id => some (.bool false, s.put l (some (.loop .done (some (.exit id)) tm n ps as bd)))
  | _ => none
def roundBody (rec : RecB) (l : Nat) (body : Code) (r : X × Ctx × S) : Res := match r.1 with
  | .normal => (r.2.2.any l).bnd fun o => match o with
    | .loop .ready pd tm n ps as bd => (rec (some l) body r.2.1 (r.2.2.put l (some (.loop .busy pd tm n ps as bd)))).bnd fun q => roundEnd l q.1 q.2.2
    | _ => none
  | _ => none
def yieldB (rec : RecB) (l : Nat) (args : List Value) (s : S) : Res := (s.any l).bnd fun o => match o with
  | .loop _ _ tm n ps as bd => guardB (s.wr l) ((setAll ps args ⟨tm, n, []⟩).bnd fun tm => (rec (some l) as tm s).bnd fun r => roundBody rec l bd r)
  | _ => none
/-- functions that are taken by their contracts -/
abbrev Orc := FuncId → List Value → S → Option Res
def callB (P : Program) (orc : Orc) (rec : RecB) (f : Value) (args : List Value) (s : S) : Res := match f with
  | .func (.func f) _ _ => match orc f args s with
    | some r => r
    | none => (P.funcs[f]?).bnd fun fn => enterB P rec fn args s
  | .func (.yield l) _ _ => yieldB rec l args s
  | _ => none

def run (P : Program) (orc : Orc) : Nat → RecB
  | 0 => fun _ _ _ _ => none
  | n + 1 => fun b => stepB P (callB P orc (run P orc n)) (run P orc n b) b

/-- the memory before a call: the global variables whose cells are told, under their own numbers, which may not be written -/
def heapG : List (Nat × Cs) → Tr OV
  | [] => .leaf
  | x :: gs => (heapG gs).set x.1 (some (.cells x.2))
def start (gs : List (Nat × Cs)) : S := ⟨heapG gs, (nat_lit 256), (nat_lit 256), none, []⟩
def runCall (P : Program) (orc : Orc) (gs : List (Nat × Cs)) (n : Nat) (f : FuncId) (args : List Value) : Option Value :=
  (callB P orc (run P orc n) (.func (.func f) #[] #[]) args (start gs)).bnd fun r => some r.1
end
end Go.Ev
