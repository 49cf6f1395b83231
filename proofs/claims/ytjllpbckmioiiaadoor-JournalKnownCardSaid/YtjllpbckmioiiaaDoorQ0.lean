/- Str, DkPure, DkMap, DkMem. -/
import Derived.Below
import Derived.Lib.Hide
import Derived.Lib.Strings
import Derived.Test.YtjllpbckmioiiaaDoorProg
import Derived.Maps.OwnSet
import Derived.WalkKit
import Derived.Lib.BufferWrite
import Derived.Maps.AppendAt
import Derived.OwnWalk
import Derived.Deep.Draws
/- Strings of the program as lists of bytes; and small words that all walks use. -/
namespace Go.Proofs.YtjllpbckmioiiaaDoor
open Go Go.RowKit
set_option maxRecDepth 100000

def str (l : List UInt8) : ByteArray := ⟨l.toArray⟩
def bl (s : ByteArray) : List UInt8 := s.data.toList

theorem bl_str (l : List UInt8) : bl (str l) = l := by simp [bl, str]
theorem str_bl (s : ByteArray) : str (bl s) = s := by obtain ⟨⟨l⟩⟩ := s; rfl
theorem str_size (l : List UInt8) : (str l).size = l.length := by simp [str, ByteArray.size]
theorem bl_len (s : ByteArray) : (bl s).length = s.size := by obtain ⟨⟨l⟩⟩ := s; simp [bl, ByteArray.size]
theorem str_inj {l m : List UInt8} (h : str l = str m) : l = m := by
  have := congrArg bl h
  rwa [bl_str, bl_str] at this

theorem toList_bl (s : ByteArray) : s.toList = bl s := Lib.toList_data s
theorem bl_extract (s : ByteArray) (a b : Nat) : bl (s.extract a b) = ((bl s).drop a).take (b - a) := Lib.extract_data s a b
theorem bl_upto (s : ByteArray) (k : Nat) : bl (s.extract 0 k) = (bl s).take k := by rw [bl_extract]; simp
theorem bl_from (s : ByteArray) (k : Nat) : bl (s.extract k s.size) = (bl s).drop k := by
  rw [bl_extract, List.take_of_length_le]
  rw [List.length_drop, bl_len]; omega
theorem beq_bl (s : ByteArray) (l : List UInt8) : (s.toList == (str l).toList) = decide (bl s = l) := by
  rw [toList_bl, toList_bl, bl_str, Bool.eq_iff_iff]; simp

theorem ofNat_small (k : Nat) (h : k < 256) : (UInt8.ofNat k).toNat = k := by
  simp [UInt8.toNat_ofNat']; omega

theorem addr_add (b o j : Nat) : (⟨b, o, none⟩ : Addr).add j = ⟨b, o + j, none⟩ := by
  unfold Addr.add
  split
  · subst_vars; rfl
  · rfl

theorem below_step {w A B : World} (h : Below w.heap.size w A) (g : Below A.heap.size A B) : Below w.heap.size w B := h.trans (g.mono h.size)
theorem below_new {w A : World} (h : Below w.heap.size w A) (o : Obj) : Below w.heap.size w (A.alloc o) := h.alloc h.size o

def okTrue (w : World) (e : Ending) (w' : World) : Prop := e = .returned (.bool true) ∧ Below w.heap.size w w'
def okStr (r : ByteArray) (w : World) (e : Ending) (w' : World) : Prop := e = .returned (.string r) ∧ Below w.heap.size w w'

end Go.Proofs.YtjllpbckmioiiaaDoor

/- What a disk is, as plain data: what was flushed, the writes behind it, the room, the fuse, the power; and what each call makes of it. -/
namespace Go.Proofs.YtjllpbckmioiiaaDoor.dk
set_option maxRecDepth 100000

abbrev Bt := List UInt8
abbrev Sects := List (Option Bt)
def zz : Bt := List.replicate 32 0
/-- What is written for a letter. -/
def rep (c : UInt8) (n : Nat) : Bt := List.replicate n c
def dat (c : UInt8) : Bt := if c.toNat ≤ 250 then rep c 32 else rep c (c.toNat % 31)
theorem zz_length : zz.length = 32 := by simp [zz]

/-- What lies at a place. -/
def look (s : Sects) (k : Int) : Option Bt := if 0 ≤ k then (s[k.toNat]?).getD none else none
def put (s : Sects) (k : Nat) (v : Bt) : Sects := s.set k (some v)
def cnt (s : Sects) : Nat := s.countP Option.isSome

theorem look_nat (s : Sects) (k : Nat) : look s (k : Int) = (s[k]?).getD none := by simp [look]
theorem look_neg (s : Sects) (k : Int) (h : k < 0) : look s k = none := by unfold look; rw [if_neg (by omega)]
theorem look_out (s : Sects) (k : Nat) (h : s.length ≤ k) : look s (k : Int) = none := by
  rw [look_nat, List.getElem?_eq_none h]; rfl

theorem look_set_same (s : Sects) (k : Nat) (o : Option Bt) (h : k < s.length) : look (s.set k o) (k : Int) = o := by
  rw [look_nat, List.getElem?_set_self h]; rfl
theorem look_set_other (s : Sects) (k : Nat) (j : Int) (o : Option Bt) (h : j ≠ (k : Int)) : look (s.set k o) j = look s j := by
  unfold look
  split
  · rw [List.getElem?_set_ne (by omega)]
  · rfl

theorem cnt_pos (s : Sects) (k : Nat) (u : Bt) (h : k < s.length) (hx : s[k] = some u) : 1 ≤ cnt s :=
  List.countP_pos_iff.2 ⟨_, List.getElem_mem h, by rw [hx]; rfl⟩

theorem cnt_set_some (s : Sects) (k : Nat) (v : Bt) (h : k < s.length) : cnt (s.set k (some v)) = if (look s (k : Int)).isSome then cnt s else cnt s + 1 := by
  unfold cnt
  rw [List.countP_set h, look_nat, List.getElem?_eq_getElem h]
  cases hx : s[k] with
  | none => simp
  | some u =>
    have hle := cnt_pos s k u h hx
    unfold cnt at hle
    simp
    omega

theorem cnt_set_none (s : Sects) (k : Nat) (h : k < s.length) : cnt (s.set k none) + (if (look s (k : Int)).isSome then 1 else 0) = cnt s := by
  unfold cnt
  rw [List.countP_set h, look_nat, List.getElem?_eq_getElem h]
  cases hx : s[k] with
  | none => simp
  | some u =>
    have hle := cnt_pos s k u h hx
    unfold cnt at hle
    simp
    omega

theorem cnt_le (s : Sects) : cnt s ≤ s.length := List.countP_le_length

/-- A disk. -/
structure DD where
  room : Int
  base : Sects
  more : List (Nat × Bt)
  on : Bool
  fuse : Int

def play (s : Sects) (l : List (Nat × Bt)) : Sects := l.foldl (fun s w => put s w.1 w.2) s
theorem play_length : ∀ (l : List (Nat × Bt)) (s : Sects), (play s l).length = s.length
  | [], _ => rfl
  | w :: l, s => by rw [play, List.foldl_cons, ← play, play_length l]; simp [put]
theorem play_cons (s : Sects) (w : Nat × Bt) (l : List (Nat × Bt)) : play s (w :: l) = play (put s w.1 w.2) l := rfl
theorem play_snoc (s : Sects) (l : List (Nat × Bt)) (w : Nat × Bt) : play s (l ++ [w]) = put (play s l) w.1 w.2 := by simp [play]
theorem play_append (s : Sects) (l r : List (Nat × Bt)) : play s (l ++ r) = play (play s l) r := by simp [play]

def DD.n (d : DD) : Nat := d.base.length
def DD.now (d : DD) : Sects := play d.base d.more
theorem DD.now_length (d : DD) : d.now.length = d.n := play_length _ _
def DD.used (d : DD) : Nat := cnt d.now
def DD.has (d : DD) (at_ : Int) : Bool := decide (0 ≤ at_) && decide (at_ < (d.n : Int))

/-- What can be said of each disk. -/
structure DD.ok (d : DD) (most : Nat) : Prop where
  n0 : 1 ≤ d.n
  n1 : d.n ≤ 1024
  room0 : 0 ≤ d.room
  room1 : d.room ≤ 9223372036854775807
  fuse0 : 0 ≤ d.fuse
  fuse1 : d.fuse ≤ 9223372036854775807
  more1 : d.more.length ≤ most
  at1 : ∀ w ∈ d.more, w.1 < d.n ∧ w.2.length = 32
  base1 : ∀ v, some v ∈ d.base → v.length = 32

theorem DD.ok.mono {d : DD} {m m' : Nat} (h : d.ok m) (hm : m ≤ m') : d.ok m' := { h with more1 := Nat.le_trans h.more1 hm }

theorem mem_set {s : Sects} {k : Nat} {o : Option Bt} {v : Bt} (h : some v ∈ s.set k o) : some v ∈ s ∨ o = some v := by
  rcases List.mem_or_eq_of_mem_set h with h | h
  · exact .inl h
  · exact .inr h.symm

theorem play_all {l : List (Nat × Bt)} : ∀ {s : Sects}, (∀ v, some v ∈ s → v.length = 32) → (∀ w ∈ l, w.2.length = 32) → ∀ v, some v ∈ play s l → v.length = 32 := by
  induction l with
  | nil => intro s h _ v hv; exact h v hv
  | cons w l ih =>
    intro s h hl v hv
    refine ih (s := put s w.1 w.2) (fun u hu => ?_) (fun x hx => hl x (by simp [hx])) v hv
    rcases mem_set hu with h' | h'
    · exact h u h'
    · injection h' with h'; subst h'; exact hl w (by simp)

theorem DD.ok.now1 {d : DD} {m : Nat} (h : d.ok m) : ∀ v, some v ∈ d.now → v.length = 32 := play_all h.base1 (fun w hw => (h.at1 w hw).2)
theorem look_mem {s : Sects} {k : Int} {v : Bt} (h : look s k = some v) : some v ∈ s := by
  unfold look at h
  split at h
  · cases hx : s[k.toNat]? with
    | none => rw [hx] at h; simp at h
    | some o => rw [hx] at h; simp at h; subst h; exact List.mem_of_getElem? hx
  · cases h
theorem DD.ok.look1 {d : DD} {m : Nat} (h : d.ok m) {k : Int} {v : Bt} (hv : look d.now k = some v) : v.length = 32 := h.now1 v (look_mem hv)

/-- What a lost write stood on. -/
def unOf : Sects → List (Nat × Bt) → List (Nat × Bt × Bt × Bool)
  | _, [] => []
  | s, (k, v) :: r => (k, v, (look s (k : Int)).getD zz, (look s (k : Int)).isSome) :: unOf (put s k v) r

theorem unOf_length : ∀ (l : List (Nat × Bt)) (s : Sects), (unOf s l).length = l.length
  | [], _ => rfl
  | (k, v) :: r, s => by simp [unOf, unOf_length r]

theorem unOf_snoc : ∀ (l : List (Nat × Bt)) (s : Sects) (k : Nat) (v : Bt),
    unOf s (l ++ [(k, v)]) = unOf s l ++ [(k, v, (look (play s l) (k : Int)).getD zz, (look (play s l) (k : Int)).isSome)]
  | [], s, k, v => rfl
  | (j, u) :: r, s, k, v => by
    show _ :: unOf (put s j u) (r ++ [(k, v)]) = _
    rw [unOf_snoc r]
    rfl

/-- Losing a write gives what there was ahead of it. -/
def undo (s : Sects) (x : Nat × Bt × Bt × Bool) : Sects := if x.2.2.2 then put s x.1 x.2.2.1 else s.set x.1 none

theorem undo_put (s : Sects) (k : Nat) (v : Bt) : undo (put s k v) (k, v, (look s (k : Int)).getD zz, (look s (k : Int)).isSome) = s := by
  unfold undo put
  rw [look_nat]
  by_cases hk : k < s.length
  · rw [List.getElem?_eq_getElem hk]
    cases hx : s[k] with
    | none => simp [List.set_set]; rw [← hx]; exact List.set_getElem_self hk
    | some u => simp [List.set_set]; rw [← hx]; exact List.set_getElem_self hk
  · rw [List.getElem?_eq_none (by omega)]
    simp [List.set_eq_of_length_le (show s.length ≤ k by omega)]

theorem unOf_get : ∀ (l : List (Nat × Bt)) (s : Sects) (i : Nat) (h : i < l.length),
    (unOf s l)[i]? = some (l[i].1, l[i].2, (look (play s (l.take i)) (l[i].1 : Int)).getD zz, (look (play s (l.take i)) (l[i].1 : Int)).isSome)
  | (k, v) :: r, s, 0, _ => rfl
  | (k, v) :: r, s, i + 1, h => by
    simp only [unOf, List.getElem?_cons_succ, List.getElem_cons_succ, List.take_succ_cons, play_cons]
    exact unOf_get r (put s k v) i (by simpa using h)

theorem undo_play (l : List (Nat × Bt)) (s : Sects) (i : Nat) (h : i < l.length) (x : Nat × Bt × Bt × Bool) (hx : (unOf s l)[i]? = some x) :
    undo (play s (l.take (i + 1))) x = play s (l.take i) := by
  rw [unOf_get l s i h] at hx
  injection hx with hx
  subst hx
  rw [List.take_succ_eq_append_getElem h, show [l[i]] = [(l[i].1, l[i].2)] from rfl, play_snoc]
  exact undo_put _ _ _

/-- The writes that stay. -/
def stay (l : List (Nat × Bt)) (keep : List Bool) : List (Nat × Bt) :=
  match l, keep with
  | w :: l, b :: keep => (if b then [w] else []) ++ stay l keep
  | _, _ => []

theorem stay_nil (l : List (Nat × Bt)) : stay l [] = [] := by cases l <;> rfl

theorem stay_snoc : ∀ (l : List (Nat × Bt)) (keep : List Bool) (k : Nat) (h : k < l.length), stay (l.take (k + 1)) keep = stay (l.take k) keep ++ (if keep[k]?.getD false then [l[k]] else [])
  | w :: l, [], k, h => by simp [stay_nil]
  | w :: l, b :: keep, 0, _ => by cases b <;> cases l <;> cases keep <;> simp [stay]
  | w :: l, b :: keep, k + 1, h => by
    simp only [List.take_succ_cons, stay, List.getElem?_cons_succ, List.getElem_cons_succ]
    rw [stay_snoc l keep k (by simpa using h), List.append_assoc]
  | [], _, _, h => absurd h (by simp)

theorem stay_mem : ∀ (l : List (Nat × Bt)) (keep : List Bool) (w : Nat × Bt), w ∈ stay l keep → w ∈ l
  | [], keep, w, h => by cases keep <;> simp [stay] at h
  | x :: l, [], w, h => by simp [stay] at h
  | x :: l, b :: keep, w, h => by
    simp only [stay, List.mem_append] at h
    rcases h with h | h
    · cases b <;> simp at h
      simp [h]
    · exact List.mem_cons_of_mem _ (stay_mem l keep w h)

def DD.new (sectors : Nat) (room : Int) : DD := { room := room, base := List.replicate sectors none, more := [], on := true, fuse := 0 }
def DD.off (d : DD) : DD := { d with on := false, fuse := 0 }
def DD.arm (d : DD) (n : Int) : DD := { d with fuse := max n 0 }
def DD.setRoom (d : DD) (n : Int) : DD := { d with room := max n 0 }
def DD.wake (d : DD) (keep : List Bool) : DD := if d.on then d else { d with base := play d.base (stay d.more keep), more := [], on := true }
/-- One operation: the disk behind it; is the power still on? -/
def DD.oper (d : DD) : DD := if d.fuse = 1 then d.off else if 1 < d.fuse then { d with fuse := d.fuse - 1 } else d
def DD.write (d : DD) (at_ : Int) (data : Bt) : Int × DD :=
  if d.on = false then (6, d)
  else if d.has at_ = false ∨ data.length ≠ 32 then (2, d)
  else if (look d.now at_).isSome = false ∧ d.room ≤ (d.used : Int) then (7, d)
  else if d.oper.on = false then (6, d.oper)
  else (0, { d.oper with more := d.more ++ [(at_.toNat, data)] })
def DD.flush (d : DD) : Int × DD :=
  if d.on = false then (6, d)
  else if d.oper.on = false then (6, d.oper)
  else (0, { d.oper with base := d.now, more := [] })
def DD.read (d : DD) (at_ : Int) : Bt × Int :=
  if d.on = false then ([], 6)
  else if d.has at_ = false then ([], 2)
  else ((look d.now at_).getD zz, 0)

/-- Which of the places are new: each counted once. -/
def fresh (s : Sects) : List Int → List Int → List Int
  | acc, [] => acc
  | acc, x :: r => if (look s x).isSome || acc.contains x then fresh s acc r else fresh s (acc ++ [x]) r
def DD.fits (d : DD) (l : List Int) : Bool :=
  l.all d.has && (decide ((fresh d.now [] l).length = 0) || decide (((fresh d.now [] l).length : Int) ≤ d.room - (d.used : Int)))

end Go.Proofs.YtjllpbckmioiiaaDoor.dk

/- A disk's map in memory: what lies at each place. -/
namespace Go.Proofs.YtjllpbckmioiiaaDoor.dk
open Go Go.RowKit
set_option maxRecDepth 100000

abbrev D1 := DataW Unit

def cLit : Value → D1
  | .int k a => .lit (.int k a)
  | _ => .nil
def cRead : Value → Option (D1 × List MemPlace)
  | .agg cs => some (.agg (cs.toList.map cLit), [])
  | _ => none
/-- A sector's 32 bytes, as one value. -/
def cVal (v : Bt) : Value := .agg (Lib.byteCells v).toArray
def cDat (v : Bt) : D1 := .agg ((Lib.byteCells v).map cLit)

theorem cRead_mk (v : Bt) : cRead (cVal v) = some (cDat v, []) := by simp [cRead, cVal, cDat]

theorem cLit_inv : ∀ (l : List Value) (v : Bt), l.map cLit = (Lib.byteCells v).map cLit → l = Lib.byteCells v
  | [], [], _ => rfl
  | x :: l, [], h => by simp [Lib.byteCells] at h
  | [], b :: v, h => by simp [Lib.byteCells] at h
  | x :: l, b :: v, h => by
    simp only [Lib.byteCells, List.map_cons, List.cons.injEq] at h ⊢
    refine ⟨?_, cLit_inv l v h.2⟩
    have h1 := h.1
    cases x <;> simp [cLit] at h1
    rw [h1.1, h1.2]

theorem cRead_inv {x : Value} {v : Bt} {ps : List MemPlace} (h : cRead x = some (cDat v, ps)) : x = cVal v := by
  cases x <;> simp [cRead, cDat] at h
  rename_i cs
  have := cLit_inv cs.toList v (by simpa using h.1)
  rw [cVal, ← this]

theorem cVal_zz : cVal zz = .agg #[Value.int IntKind.u8 0, Value.int IntKind.u8 0, Value.int IntKind.u8 0, Value.int IntKind.u8 0, Value.int IntKind.u8 0, Value.int IntKind.u8 0, Value.int IntKind.u8 0, Value.int IntKind.u8 0, Value.int IntKind.u8 0, Value.int IntKind.u8 0, Value.int IntKind.u8 0, Value.int IntKind.u8 0, Value.int IntKind.u8 0, Value.int IntKind.u8 0, Value.int IntKind.u8 0, Value.int IntKind.u8 0, Value.int IntKind.u8 0, Value.int IntKind.u8 0, Value.int IntKind.u8 0, Value.int IntKind.u8 0, Value.int IntKind.u8 0, Value.int IntKind.u8 0, Value.int IntKind.u8 0, Value.int IntKind.u8 0, Value.int IntKind.u8 0, Value.int IntKind.u8 0, Value.int IntKind.u8 0, Value.int IntKind.u8 0, Value.int IntKind.u8 0, Value.int IntKind.u8 0, Value.int IntKind.u8 0, Value.int IntKind.u8 0] := rfl

/-- Block m is the map of what was written. -/
def MapIs (w : World) (m : Nat) (s : Sects) : Prop :=
  ∃ D : D1, w.ownsMap Tryd.prog 3 cRead m (Maps.size D) D ∧ (∀ k : Int, Maps.has D (.int .i64 k) = (look s k).isSome) ∧
    (∀ (k : Int) v, look s k = some v → ∀ z, D.atKey (.int .i64 k) z = cDat v) ∧ Maps.size D = cnt s

theorem own_tight {w : World} {b n : Nat} {D : D1} {P : Program} {k : TypeId} {R : Value → Option (D1 × List MemPlace)} (h : w.ownsMap P k R b n D) : w.ownsMap P k R b (Maps.size D) D := by
  obtain ⟨es, clock, hb, F, _, rfl⟩ := h
  exact ⟨es, clock, hb, F, by simp [Maps.size, length_sorted], rfl⟩

theorem MapIs.lt {w : World} {m : Nat} {s : Sects} (h : MapIs w m s) : m < w.heap.size := by
  obtain ⟨D, h1, _⟩ := h
  exact h1.lt

theorem MapIs.of_block {w w' : World} {m : Nat} {s : Sects} (h : MapIs w m s) (hb : w'.heap[m]? = w.heap[m]?) : MapIs w' m s := by
  obtain ⟨D, ⟨es, clock, h1, h2⟩, h3⟩ := h
  exact ⟨D, ⟨es, clock, hb.trans h1, h2⟩, h3⟩

theorem MapIs.made (w : World) (n : Nat) : MapIs (w.alloc (.map #[] 0)) w.heap.size (List.replicate n none) := by
  have hl : ∀ k : Int, look (List.replicate n none) k = none := by
    intro k
    unfold look
    split
    · simp only [List.getElem?_replicate]
      split <;> rfl
    · rfl
  refine ⟨.map [], World.ownsMap_made w Tryd.prog 3 cRead, fun k => by rw [hl]; rfl, fun k v h => (by rw [hl] at h; cases h), ?_⟩
  simp [Maps.size, cnt, List.countP_replicate]

theorem keyLit (k : Int) : WideAt.IsKeyLit (Lit.int .i64 k) := trivial
abbrev keyed : Go.Maps.Keyed Tryd.prog 3 := Go.Maps.int_keyed Tryd.underlying3
theorem wf64 (k : Int) (h0 : -9223372036854775808 ≤ k) (h1 : k ≤ 9223372036854775807) : (Lit.int .i64 k).wf = true := WalkArith.wf_i64 (by omega)

theorem MapIs.find {w : World} {m : Nat} {s : Sects} (h : MapIs w m s) (k : Int) (h0 : -9223372036854775808 ≤ k) (h1 : k ≤ 9223372036854775807) :
    (Instr.lookup 71 (.map (some m)) (.int .i64 k) true).run Tryd.prog w = .ok (.tuple #[cVal ((look s k).getD zz), .bool (look s k).isSome]) w ∧
    (Instr.lookup 71 (.map (some m)) (.int .i64 k) false).run Tryd.prog w = .ok (cVal ((look s k).getD zz)) w := by
  obtain ⟨D, hown, hh, ha, _⟩ := h
  have hkey := Go.Maps.keyOf_int_mk (P := Tryd.prog) (k := 3) Tryd.underlying3 (wf64 k h0 h1)
  have hz : (zeroValue 77).run Tryd.prog w = .ok (cVal zz) w := by rw [cVal_zz]; exact Tryd.zeroValue77 w
  have hat : D.atKey (.int .i64 k) (cDat zz) = cDat ((look s k).getD zz) := by
    cases hx : look s k with
    | none => exact Maps.atKey_of_not_has (by rw [hh, hx]; rfl) _
    | some v => exact ha k v hx _
  obtain ⟨v, ps, hrun, hv⟩ := hown.look_ok keyed Tryd.underlying71 hz (cRead_mk zz) hkey
  obtain ⟨v2, ps2, hrun2, hv2⟩ := hown.lookup keyed Tryd.underlying71 hz (cRead_mk zz) hkey
  rw [hat] at hv hv2
  rw [cRead_inv hv, hh] at hrun
  rw [cRead_inv hv2] at hrun2
  exact ⟨hrun, hrun2⟩

theorem MapIs.len {w : World} {m : Nat} {s : Sects} (h : MapIs w m s) (ty : TypeId) : (Builtin.len_ #[71] ty #[.map (some m)]).run Tryd.prog w = .ok (.int .i64 (cnt s : Int)) w := by
  obtain ⟨D, hown, _, _, hc⟩ := h
  rw [← hc]
  exact hown.len Tryd.underlying71 ty

theorem key_ne {a b : Int} (h : a ≠ b) : (Lit.int .i64 a) ≠ Lit.int .i64 b := fun e => h (by injection e)

theorem MapIs.store {w : World} {m : Nat} {s : Sects} (h : MapIs w m s) (k : Nat) (v : Bt) (hk : k < s.length) (h1 : s.length ≤ 1024) :
    ∃ w', (Instr.mapUpdate 71 (.map (some m)) (.int .i64 (k : Int)) (cVal v)).run Tryd.prog w = .ok () w' ∧ MapIs w' m (put s k v) ∧ w.mapTurned w' m := by
  obtain ⟨D, hown, hh, ha, hc⟩ := h
  have hkey := Go.Maps.keyOf_int_mk (P := Tryd.prog) (k := 3) Tryd.underlying3 (wf64 (k : Int) (by omega) (by omega))
  have hti := hown.tidy keyed
  have hcl := cnt_le s
  obtain ⟨w', hrun, r1, r2⟩ := hown.store keyed Tryd.underlying71 (by unfold maxLen; omega) hkey (cRead_mk v)
  refine ⟨w', hrun, ⟨_, own_tight r1, ?_, ?_, ?_⟩, r2⟩
  · intro j
    by_cases e : j = (k : Int)
    · subst e
      rw [Maps.has_put_same hti.isMap (keyLit _), put, look_set_same _ _ _ hk]
      rfl
    · rw [Maps.has_put_other (key_ne e), put, look_set_other _ _ _ _ e, hh]
  · intro j u hu z
    by_cases e : j = (k : Int)
    · subst e
      rw [put, look_set_same _ _ _ hk] at hu
      injection hu with hu
      subst hu
      exact Maps.atKey_put_same hti.isMap (keyLit _) _ _
    · rw [put, look_set_other _ _ _ _ e] at hu
      rw [Maps.atKey_put_other (key_ne e)]
      exact ha j u hu z
  · rw [Maps.size_put hti, put, cnt_set_some _ _ _ hk, hh, hc]

theorem MapIs.drop {w : World} {m : Nat} {s : Sects} (h : MapIs w m s) (k : Nat) (hk : k < s.length) (h1 : s.length ≤ 1024) (ty : TypeId) :
    ∃ w', (Builtin.delete_ #[71, 3] ty #[.map (some m), .int .i64 (k : Int)]).run Tryd.prog w = .ok (.tuple #[]) w' ∧ MapIs w' m (s.set k none) ∧ w.mapTurned w' m := by
  obtain ⟨D, hown, hh, ha, hc⟩ := h
  have hkey := Go.Maps.keyOf_int_mk (P := Tryd.prog) (k := 3) Tryd.underlying3 (wf64 (k : Int) (by omega) (by omega))
  have hti := hown.tidy keyed
  obtain ⟨w', hrun, r1, r2⟩ := hown.drop keyed Tryd.underlying71 hkey ty
  refine ⟨w', hrun, ⟨_, own_tight r1, ?_, ?_, ?_⟩, r2⟩
  · intro j
    by_cases e : j = (k : Int)
    · subst e
      rw [Maps.has_del_same, look_set_same _ _ _ hk]
      rfl
    · rw [Maps.has_del_other (key_ne e), look_set_other _ _ _ _ e, hh]
  · intro j u hu z
    by_cases e : j = (k : Int)
    · subst e
      rw [look_set_same _ _ _ hk] at hu
      cases hu
    · rw [look_set_other _ _ _ _ e] at hu
      rw [Maps.atKey_del_other (key_ne e)]
      exact ha j u hu z
  · have g1 := Maps.size_del (k := .int .i64 (k : Int)) hti
    have g2 := cnt_set_none s k hk
    rw [hh] at g1
    omega

end Go.Proofs.YtjllpbckmioiiaaDoor.dk

/- A disk in memory: its struct, its map, its list of unflushed writes; and what a call may turn. -/
namespace Go.Proofs.YtjllpbckmioiiaaDoor.dk
open Go Go.RowKit
set_option maxRecDepth 100000

/-- A block that is known whole. -/
def Blk (w : World) (g : Nat) (t : TypeId) (cs : Array Value) : Prop := w.heap[g]? = some (.cells cs t (0, 0))

section
variable {w w' : World} {g : Nat} {t : TypeId} {cs : Array Value}
theorem Blk.lt (h : Blk w g t cs) : g < w.heap.size := by
  unfold Blk at h
  exact (Array.getElem?_eq_some_iff.1 h).1
theorem Blk.cell (h : Blk w g t cs) (i : Nat) : w.cell? ⟨g, i, none⟩ = cs[i]? := cell_of_row w g i cs t (0, 0) h
theorem Blk.frozen (h : Blk w g t cs) (i : Nat) : w.frozen? ⟨g, i, none⟩ = false := by
  unfold Blk at h
  simp [World.frozen?, h]
theorem Blk.new (w : World) (t : TypeId) (cs : Array Value) : Blk (w.alloc (.cells cs t)) w.heap.size t cs := heap_alloc_new w _
theorem Blk.of_block (h : Blk w g t cs) (hb : w'.heap[g]? = w.heap[g]?) : Blk w' g t cs := hb.trans h
theorem Blk.set_ (h : Blk w g t cs) (i : Nat) (u : Value) : Blk (w.setCell ⟨g, i, none⟩ u) g t (cs.setIfInBounds i u) := heap_setCell_same w g i cs t u h
end

/-- w' is w but for the blocks of S, and new ones. -/
structure But (S : Nat → Prop) (w w' : World) : Prop where
  os : w'.os = w.os
  tape : w'.tape = w.tape
  output : w'.output = w.output
  size : w.heap.size ≤ w'.heap.size
  block : ∀ k, k < w.heap.size → ¬ S k → w'.heap[k]? = w.heap[k]?

section
variable {S S' : Nat → Prop} {a b c w w' : World}
theorem But.refl (S : Nat → Prop) (w : World) : But S w w := ⟨rfl, rfl, rfl, Nat.le_refl _, fun _ _ _ => rfl⟩
theorem But.trans (h : But S a b) (k : But S' b c) (hs : ∀ i, S' i → S i ∨ a.heap.size ≤ i) : But S a c :=
  ⟨k.os.trans h.os, k.tape.trans h.tape, k.output.trans h.output, Nat.le_trans h.size k.size, fun i hi hn => by
    refine (k.block i (Nat.lt_of_lt_of_le hi h.size) (fun e => ?_)).trans (h.block i hi hn)
    rcases hs i e with h1 | h1
    · exact hn h1
    · omega⟩
theorem But.mono (h : But S w w') (hs : ∀ i, S i → S' i) : But S' w w' := ⟨h.os, h.tape, h.output, h.size, fun k hk hn => h.block k hk (fun e => hn (hs k e))⟩
theorem But.of_below (h : Below w.heap.size w w') : But S w w' := ⟨h.os, h.tape, h.output, h.size, fun k hk _ => h.block k hk⟩
theorem But.of_grown {row : Option Nat} (h : w.grownBy w' row) (hs : ∀ k, row = some k → S k) : But S w w' :=
  ⟨h.os, h.tape, h.output, h.size, fun k hk hn => h.block k hk (fun e => hn (hs k e.symm))⟩
theorem But.drew (h : But S a w) : But S a w.drew := ⟨h.os, h.tape, h.output, h.size, h.block⟩
theorem But.drewN (h : But S a w) (n : Nat) : But S a (w.drewN n) := ⟨h.os, h.tape, h.output, h.size, h.block⟩
theorem But.alloc (h : But S a w) (o : Obj) : But S a (w.alloc o) :=
  h.trans (S' := fun _ => False) ⟨rfl, rfl, rfl, by simp, fun k hk _ => Below.heap_alloc _ _ _ hk⟩ (fun _ e => e.elim)
theorem But.setCell (h : But S a w) (p : Addr) (u : Value) (hp : S p.block ∨ a.heap.size ≤ p.block) : But S a (w.setCell p u) :=
  h.trans (S' := fun k => k = p.block) ⟨rfl, rfl, rfl, by simp [World.setCell], fun k _ hn => Below.heap_setCell _ _ _ _ hn⟩ (fun i e => by rw [e]; exact hp)
theorem But.grown {row : Option Nat} (h : But S a w) (hg : w.grownBy w' row) (hs : ∀ k, row = some k → S k ∨ a.heap.size ≤ k) : But S a w' :=
  h.trans (S' := fun k => row = some k) (But.of_grown hg (fun _ e => e)) hs
theorem But.below {B : Nat} (h : But S a w) (hs : ∀ i, S i → B ≤ i) (hB : B ≤ a.heap.size) : Below B a w :=
  ⟨h.os, h.tape, h.output, h.size, fun k hk => h.block k (by omega) (fun e => by have := hs k e; omega)⟩
end

/-- An unflushed write as its 66 cells. -/
def wrCells (x : Nat × Bt × Bt × Bool) : List Value := .int .i64 (x.1 : Int) :: (Lib.byteCells x.2.1 ++ (Lib.byteCells x.2.2.1 ++ [.bool x.2.2.2]))
def wrRow (l : List (Nat × Bt × Bt × Bool)) : List Value := l.flatMap wrCells

theorem own_of_block {w w' : World} {base e size n : Nat} {v : Value} {xs : List Value} (h : w.ownsRow base e size v n xs) (hb : ∀ k, v.ownBlock = some k → w'.heap[k]? = w.heap[k]?) : w'.ownsRow base e size v n xs := by
  refine ⟨h.1, ?_⟩
  rcases h.2 with hn | ⟨g, cap, cur, rfl, h1, h2, r⟩
  · exact .inl hn
  · exact .inr ⟨g, cap, cur, rfl, h1, (hb g rfl).trans h2, r⟩

theorem own_lt {w : World} {base e size n : Nat} {v : Value} {xs : List Value} (h : w.ownsRow base e size v n xs) : ∀ k, v.ownBlock = some k → k < w.heap.size := by
  intro k hk
  rcases h.2 with ⟨rfl, _⟩ | ⟨g, cap, cur, rfl, h1, h2, r⟩
  · cases hk
  · simp [Value.ownBlock] at hk
    subst hk
    exact (Array.getElem?_eq_some_iff.1 h2).1

/-- What lies behind a disk's pointer: its cells, its map, the list of its unflushed writes; all of it its own. -/
def DkAt (w : World) (own : Nat → Prop) (p m : Nat) (v : Value) (d : DD) : Prop :=
  Blk w p 74 #[.int .i64 (d.n : Int), .int .i64 d.room, .map (some m), v, .bool d.on, .int .i64 d.fuse] ∧ MapIs w m d.now ∧
  w.ownsRow 0 80 66 v d.more.length (wrRow (unOf d.base d.more)) ∧
  own p ∧ own m ∧ (∀ k, v.ownBlock = some k → own k) ∧ (∀ k, own k → k < w.heap.size)

def DkIs (most : Nat) (w : World) (own : Nat → Prop) (p : Nat) (d : DD) : Prop := d.ok most ∧ ∃ m v, DkAt w own p m v d

theorem DkAt.ne {w : World} {own : Nat → Prop} {p m : Nat} {v : Value} {d : DD} (h : DkAt w own p m v d) : p ≠ m ∧ (∀ k, v.ownBlock = some k → k ≠ p ∧ k ≠ m) := by
  obtain ⟨h1, ⟨D, ⟨es, clock, h2, _⟩, _⟩, h3, _⟩ := h
  unfold Blk at h1
  refine ⟨?_, ?_⟩
  · rintro rfl
    rw [h1] at h2
    cases h2
  · intro k hk
    rcases h3.2 with ⟨rfl, _⟩ | ⟨g, cap, cur, rfl, _, hg, _⟩
    · cases hk
    · simp [Value.ownBlock] at hk
      subst hk
      refine ⟨?_, ?_⟩
      · rintro rfl
        rw [h1] at hg
        simp only [Option.some.injEq, Obj.cells.injEq] at hg
        exact absurd hg.2.1 (by decide)
      · rintro rfl
        rw [h2] at hg
        cases hg

theorem DkAt.keep {w w' : World} {own : Nat → Prop} {p m : Nat} {v : Value} {d : DD} (h : DkAt w own p m v d) (hs : w.heap.size ≤ w'.heap.size) (hb : ∀ k, own k → w'.heap[k]? = w.heap[k]?) : DkAt w' own p m v d := by
  obtain ⟨h1, h2, h3, hp, hm, hv, hl⟩ := h
  exact ⟨h1.of_block (hb _ hp), h2.of_block (hb _ hm), own_of_block h3 (fun k hk => hb k (hv k hk)), hp, hm, hv, fun k hk => Nat.lt_of_lt_of_le (hl k hk) hs⟩

theorem DkIs.keep {most : Nat} {w w' : World} {own : Nat → Prop} {p : Nat} {d : DD} (h : DkIs most w own p d) (hs : w.heap.size ≤ w'.heap.size) (hb : ∀ k, own k → w'.heap[k]? = w.heap[k]?) : DkIs most w' own p d := by
  obtain ⟨h0, m, v, h1⟩ := h
  exact ⟨h0, m, v, h1.keep hs hb⟩

/-- While another one is turned. -/
theorem DkIs.but {most : Nat} {w w' : World} {own S : Nat → Prop} {p : Nat} {d : DD} (h : DkIs most w own p d) (hb : But S w w') (hd : ∀ k, own k → ¬ S k) : DkIs most w' own p d := by
  obtain ⟨h0, m, v, h1⟩ := h
  have hl := h1.2.2.2.2.2.2
  exact ⟨h0, m, v, h1.keep hb.size (fun k hk => hb.block k (hl k hk) (hd k hk))⟩

/-- The new blocks of a call belong to it. -/
def Grows (own own' : Nat → Prop) (w : World) : Prop := ∀ k, own' k → own k ∨ w.heap.size ≤ k

theorem Grows.refl (own : Nat → Prop) (w : World) : Grows own own w := fun _ h => .inl h

/-- What a call that turns a disk leaves. -/
def DkPost (most : Nat) (own : Nat → Prop) (p : Nat) (d : DD) (r : Value) (w : World) (e : Ending) (w' : World) : Prop :=
  e = .returned r ∧ ∃ own', DkIs most w' own' p d ∧ But own w w' ∧ Grows own own' w

end Go.Proofs.YtjllpbckmioiiaaDoor.dk

