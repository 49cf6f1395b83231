/- What a disk is, as plain data: what was flushed, the writes behind it, the room, the fuse, the power; and what each call makes of it. -/
import Derived.Test.YtbpkgfhhoejmcaaStr
namespace Go.Proofs.Ytbpkgfhhoejmcaa.dk

abbrev Bt := List UInt8
abbrev Sects := List (Option Bt)
def zz : Bt := List.replicate 32 0
/-- What is written for a letter. -/
def rep (c : UInt8) (n : Nat) : Bt := List.replicate n c
def dat (c : UInt8) : Bt := if c.toNat ≤ 250 then rep c 32 else rep c (c.toNat % 31)
theorem zz_length : zz.length = 32 := by simp [zz]

/-- What lies at a place. -/
def look (s : Sects) (k : Int) : Option Bt := if 0 ≤ k then (s[k.toNat]?).getD none else none
def put (s : Sects) (k : Nat) (v : Bt) : Sects := s.set k (some v)
def cnt (s : Sects) : Nat := s.countP Option.isSome

theorem look_nat (s : Sects) (k : Nat) : look s (k : Int) = (s[k]?).getD none := by simp [look]
theorem look_neg (s : Sects) (k : Int) (h : k < 0) : look s k = none := by unfold look; rw [if_neg (by omega)]
theorem look_out (s : Sects) (k : Nat) (h : s.length ≤ k) : look s (k : Int) = none := by
  rw [look_nat, List.getElem?_eq_none h]; rfl

theorem look_set_same (s : Sects) (k : Nat) (o : Option Bt) (h : k < s.length) : look (s.set k o) (k : Int) = o := by
  rw [look_nat, List.getElem?_set_self h]; rfl
theorem look_set_other (s : Sects) (k : Nat) (j : Int) (o : Option Bt) (h : j ≠ (k : Int)) : look (s.set k o) j = look s j := by
  unfold look
  split
  · rw [List.getElem?_set_ne (by omega)]
  · rfl

theorem cnt_pos (s : Sects) (k : Nat) (u : Bt) (h : k < s.length) (hx : s[k] = some u) : 1 ≤ cnt s :=
  List.countP_pos_iff.2 ⟨_, List.getElem_mem h, by rw [hx]; rfl⟩

theorem cnt_set_some (s : Sects) (k : Nat) (v : Bt) (h : k < s.length) : cnt (s.set k (some v)) = if (look s (k : Int)).isSome then cnt s else cnt s + 1 := by
  unfold cnt
  rw [List.countP_set h, look_nat, List.getElem?_eq_getElem h]
  cases hx : s[k] with
  | none => simp
  | some u =>
    have hle := cnt_pos s k u h hx
    unfold cnt at hle
    simp
    omega

theorem cnt_set_none (s : Sects) (k : Nat) (h : k < s.length) : cnt (s.set k none) + (if (look s (k : Int)).isSome then 1 else 0) = cnt s := by
  unfold cnt
  rw [List.countP_set h, look_nat, List.getElem?_eq_getElem h]
  cases hx : s[k] with
  | none => simp
  | some u =>
    have hle := cnt_pos s k u h hx
    unfold cnt at hle
    simp
    omega

theorem cnt_le (s : Sects) : cnt s ≤ s.length := List.countP_le_length

/-- A disk. -/
structure DD where
  room : Int
  base : Sects
  more : List (Nat × Bt)
  on : Bool
  fuse : Int

def play (s : Sects) (l : List (Nat × Bt)) : Sects := l.foldl (fun s w => put s w.1 w.2) s
theorem play_length : ∀ (l : List (Nat × Bt)) (s : Sects), (play s l).length = s.length
  | [], _ => rfl
  | w :: l, s => by rw [play, List.foldl_cons, ← play, play_length l]; simp [put]
theorem play_cons (s : Sects) (w : Nat × Bt) (l : List (Nat × Bt)) : play s (w :: l) = play (put s w.1 w.2) l := rfl
theorem play_snoc (s : Sects) (l : List (Nat × Bt)) (w : Nat × Bt) : play s (l ++ [w]) = put (play s l) w.1 w.2 := by simp [play]
theorem play_append (s : Sects) (l r : List (Nat × Bt)) : play s (l ++ r) = play (play s l) r := by simp [play]

def DD.n (d : DD) : Nat := d.base.length
def DD.now (d : DD) : Sects := play d.base d.more
theorem DD.now_length (d : DD) : d.now.length = d.n := play_length _ _
def DD.used (d : DD) : Nat := cnt d.now
def DD.has (d : DD) (at_ : Int) : Bool := decide (0 ≤ at_) && decide (at_ < (d.n : Int))

/-- What can be said of each disk. -/
structure DD.ok (d : DD) (most : Nat) : Prop where
  n0 : 1 ≤ d.n
  n1 : d.n ≤ 1024
  room0 : 0 ≤ d.room
  room1 : d.room ≤ 9223372036854775807
  fuse0 : 0 ≤ d.fuse
  fuse1 : d.fuse ≤ 9223372036854775807
  more1 : d.more.length ≤ most
  at1 : ∀ w ∈ d.more, w.1 < d.n ∧ w.2.length = 32
  base1 : ∀ v, some v ∈ d.base → v.length = 32

theorem DD.ok.mono {d : DD} {m m' : Nat} (h : d.ok m) (hm : m ≤ m') : d.ok m' := { h with more1 := Nat.le_trans h.more1 hm }

theorem mem_set {s : Sects} {k : Nat} {o : Option Bt} {v : Bt} (h : some v ∈ s.set k o) : some v ∈ s ∨ o = some v := by
  rcases List.mem_or_eq_of_mem_set h with h | h
  · exact .inl h
  · exact .inr h.symm

theorem play_all {l : List (Nat × Bt)} : ∀ {s : Sects}, (∀ v, some v ∈ s → v.length = 32) → (∀ w ∈ l, w.2.length = 32) → ∀ v, some v ∈ play s l → v.length = 32 := by
  induction l with
  | nil => intro s h _ v hv; exact h v hv
  | cons w l ih =>
    intro s h hl v hv
    refine ih (s := put s w.1 w.2) (fun u hu => ?_) (fun x hx => hl x (by simp [hx])) v hv
    rcases mem_set hu with h' | h'
    · exact h u h'
    · injection h' with h'; subst h'; exact hl w (by simp)

theorem DD.ok.now1 {d : DD} {m : Nat} (h : d.ok m) : ∀ v, some v ∈ d.now → v.length = 32 := play_all h.base1 (fun w hw => (h.at1 w hw).2)
theorem look_mem {s : Sects} {k : Int} {v : Bt} (h : look s k = some v) : some v ∈ s := by
  unfold look at h
  split at h
  · cases hx : s[k.toNat]? with
    | none => rw [hx] at h; simp at h
    | some o => rw [hx] at h; simp at h; subst h; exact List.mem_of_getElem? hx
  · cases h
theorem DD.ok.look1 {d : DD} {m : Nat} (h : d.ok m) {k : Int} {v : Bt} (hv : look d.now k = some v) : v.length = 32 := h.now1 v (look_mem hv)

/-- What a lost write stood on. -/
def unOf : Sects → List (Nat × Bt) → List (Nat × Bt × Bt × Bool)
  | _, [] => []
  | s, (k, v) :: r => (k, v, (look s (k : Int)).getD zz, (look s (k : Int)).isSome) :: unOf (put s k v) r

theorem unOf_length : ∀ (l : List (Nat × Bt)) (s : Sects), (unOf s l).length = l.length
  | [], _ => rfl
  | (k, v) :: r, s => by simp [unOf, unOf_length r]

theorem unOf_snoc : ∀ (l : List (Nat × Bt)) (s : Sects) (k : Nat) (v : Bt),
    unOf s (l ++ [(k, v)]) = unOf s l ++ [(k, v, (look (play s l) (k : Int)).getD zz, (look (play s l) (k : Int)).isSome)]
  | [], s, k, v => rfl
  | (j, u) :: r, s, k, v => by
    show _ :: unOf (put s j u) (r ++ [(k, v)]) = _
    rw [unOf_snoc r]
    rfl

/-- Losing a write gives what there was ahead of it. -/
def undo (s : Sects) (x : Nat × Bt × Bt × Bool) : Sects := if x.2.2.2 then put s x.1 x.2.2.1 else s.set x.1 none

theorem undo_put (s : Sects) (k : Nat) (v : Bt) : undo (put s k v) (k, v, (look s (k : Int)).getD zz, (look s (k : Int)).isSome) = s := by
  unfold undo put
  rw [look_nat]
  by_cases hk : k < s.length
  · rw [List.getElem?_eq_getElem hk]
    cases hx : s[k] with
    | none => simp [List.set_set]; rw [← hx]; exact List.set_getElem_self hk
    | some u => simp [List.set_set]; rw [← hx]; exact List.set_getElem_self hk
  · rw [List.getElem?_eq_none (by omega)]
    simp [List.set_eq_of_length_le (show s.length ≤ k by omega)]

theorem unOf_get : ∀ (l : List (Nat × Bt)) (s : Sects) (i : Nat) (h : i < l.length),
    (unOf s l)[i]? = some (l[i].1, l[i].2, (look (play s (l.take i)) (l[i].1 : Int)).getD zz, (look (play s (l.take i)) (l[i].1 : Int)).isSome)
  | (k, v) :: r, s, 0, _ => rfl
  | (k, v) :: r, s, i + 1, h => by
    simp only [unOf, List.getElem?_cons_succ, List.getElem_cons_succ, List.take_succ_cons, play_cons]
    exact unOf_get r (put s k v) i (by simpa using h)

theorem undo_play (l : List (Nat × Bt)) (s : Sects) (i : Nat) (h : i < l.length) (x : Nat × Bt × Bt × Bool) (hx : (unOf s l)[i]? = some x) :
    undo (play s (l.take (i + 1))) x = play s (l.take i) := by
  rw [unOf_get l s i h] at hx
  injection hx with hx
  subst hx
  rw [List.take_succ_eq_append_getElem h, show [l[i]] = [(l[i].1, l[i].2)] from rfl, play_snoc]
  exact undo_put _ _ _

/-- The writes that stay. -/
def stay (l : List (Nat × Bt)) (keep : List Bool) : List (Nat × Bt) :=
  match l, keep with
  | w :: l, b :: keep => (if b then [w] else []) ++ stay l keep
  | _, _ => []

theorem stay_nil (l : List (Nat × Bt)) : stay l [] = [] := by cases l <;> rfl

theorem stay_snoc : ∀ (l : List (Nat × Bt)) (keep : List Bool) (k : Nat) (h : k < l.length), stay (l.take (k + 1)) keep = stay (l.take k) keep ++ (if keep[k]?.getD false then [l[k]] else [])
  | w :: l, [], k, h => by simp [stay_nil]
  | w :: l, b :: keep, 0, _ => by cases b <;> cases l <;> cases keep <;> simp [stay]
  | w :: l, b :: keep, k + 1, h => by
    simp only [List.take_succ_cons, stay, List.getElem?_cons_succ, List.getElem_cons_succ]
    rw [stay_snoc l keep k (by simpa using h), List.append_assoc]
  | [], _, _, h => absurd h (by simp)

theorem stay_mem : ∀ (l : List (Nat × Bt)) (keep : List Bool) (w : Nat × Bt), w ∈ stay l keep → w ∈ l
  | [], keep, w, h => by cases keep <;> simp [stay] at h
  | x :: l, [], w, h => by simp [stay] at h
  | x :: l, b :: keep, w, h => by
    simp only [stay, List.mem_append] at h
    rcases h with h | h
    · cases b <;> simp at h
      simp [h]
    · exact List.mem_cons_of_mem _ (stay_mem l keep w h)

def DD.new (sectors : Nat) (room : Int) : DD := { room := room, base := List.replicate sectors none, more := [], on := true, fuse := 0 }
def DD.off (d : DD) : DD := { d with on := false, fuse := 0 }
def DD.arm (d : DD) (n : Int) : DD := { d with fuse := max n 0 }
def DD.setRoom (d : DD) (n : Int) : DD := { d with room := max n 0 }
def DD.wake (d : DD) (keep : List Bool) : DD := if d.on then d else { d with base := play d.base (stay d.more keep), more := [], on := true }
/-- One operation: the disk behind it; is the power still on? -/
def DD.oper (d : DD) : DD := if d.fuse = 1 then d.off else if 1 < d.fuse then { d with fuse := d.fuse - 1 } else d
def DD.write (d : DD) (at_ : Int) (data : Bt) : Int × DD :=
  if d.on = false then (6, d)
  else if d.has at_ = false ∨ data.length ≠ 32 then (2, d)
  else if (look d.now at_).isSome = false ∧ d.room ≤ (d.used : Int) then (7, d)
  else if d.oper.on = false then (6, d.oper)
  else (0, { d.oper with more := d.more ++ [(at_.toNat, data)] })
def DD.flush (d : DD) : Int × DD :=
  if d.on = false then (6, d)
  else if d.oper.on = false then (6, d.oper)
  else (0, { d.oper with base := d.now, more := [] })
def DD.read (d : DD) (at_ : Int) : Bt × Int :=
  if d.on = false then ([], 6)
  else if d.has at_ = false then ([], 2)
  else ((look d.now at_).getD zz, 0)

/-- Which of the places are new: each counted once. -/
def fresh (s : Sects) : List Int → List Int → List Int
  | acc, [] => acc
  | acc, x :: r => if (look s x).isSome || acc.contains x then fresh s acc r else fresh s (acc ++ [x]) r
def DD.fits (d : DD) (l : List Int) : Bool :=
  l.all d.has && (decide ((fresh d.now [] l).length = 0) || decide (((fresh d.now [] l).length : Int) ≤ d.room - (d.used : Int)))

end Go.Proofs.Ytbpkgfhhoejmcaa.dk
