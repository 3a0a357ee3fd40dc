/- The facts of the laws of chapter 9: terms as rows of marks, as trees, as texts; how texts are read. No condition. -/
import Derived.Test.YtfdlfgokoponmaaDoorEv2
namespace Go.Proofs.YtfdlfgokoponmaaDoor
set_option linter.unusedVariables false

/-- a mark: its kind, its letter -/
abbrev Mk := Int × Int

/-- a term as a tree -/
inductive Tm where
  | lt (b : Bool)
  | no (t : Tm)
  | an (x y : Tm)
  | vel (x y : Tm)

def letM (b : Bool) : Mk := (0, if b = true then 1 else 0)

/-- its marks -/
def encT : Tm → List Mk
  | .lt b => [letM b]
  | .no t => encT t ++ [(1, 0)]
  | .an x y => encT x ++ encT y ++ [(2, 0)]
  | .vel x y => encT x ++ encT y ++ [(3, 0)]

theorem enc_pos (T : Tm) : 1 ≤ (encT T).length := by
  cases T <;> simp [encT] <;> omega

/-! how many parts a row of marks leaves -/

def cntS (p : Option Nat) (m : Mk) : Option Nat :=
  match p with
  | none => none
  | some n => if m = (0, 0) ∨ m = (0, 1) then some (n + 1) else if m = (1, 0) then (if 1 ≤ n then some n else none) else if m = (2, 0) ∨ m = (3, 0) then (if 2 ≤ n then some (n - 1) else none) else none

def cnt (l : List Mk) : Option Nat := l.foldl cntS (some 0)

def tmB (l : List Mk) : Bool := decide (cnt l = some 1) && decide (l.length ≤ 40)

theorem tmB_iff (l : List Mk) : tmB l = true ↔ cnt l = some 1 ∧ l.length ≤ 40 := by simp [tmB]

theorem cnt_none (l : List Mk) : l.foldl cntS none = none := by
  induction l with
  | nil => rfl
  | cons m l ih => exact ih

theorem cnt_snoc (l : List Mk) (m : Mk) : cnt (l ++ [m]) = cntS (cnt l) m := by
  unfold cnt
  rw [List.foldl_append]
  rfl

/-! the machine that makes trees of marks -/

def stepM (st : List Tm) (m : Mk) : Option (List Tm) :=
  if m = (0, 0) then some (.lt false :: st)
  else if m = (0, 1) then some (.lt true :: st)
  else if m = (1, 0) then (match st with | x :: st => some (.no x :: st) | _ => none)
  else if m = (2, 0) then (match st with | y :: x :: st => some (.an x y :: st) | _ => none)
  else if m = (3, 0) then (match st with | y :: x :: st => some (.vel x y :: st) | _ => none)
  else none

def run : List Tm → List Mk → Option (List Tm)
  | st, [] => some st
  | st, m :: l => (stepM st m).bind fun st' => run st' l

theorem run_append (st : List Tm) (a b : List Mk) : run st (a ++ b) = (run st a).bind fun st' => run st' b := by
  induction a generalizing st with
  | nil => rfl
  | cons m a ih =>
    simp only [List.cons_append, run]
    cases stepM st m with
    | none => rfl
    | some st' => simp only [Option.bind_some]; exact ih st'

theorem run_enc (T : Tm) (st : List Tm) (l : List Mk) : run st (encT T ++ l) = run (T :: st) l := by
  induction T generalizing st l with
  | lt b => cases b <;> simp [encT, letM, run, stepM]
  | no t ih => rw [encT, List.append_assoc, ih]; simp [run, stepM]
  | an x y ihx ihy => rw [encT, List.append_assoc, List.append_assoc, ihx, ihy]; simp [run, stepM]
  | vel x y ihx ihy => rw [encT, List.append_assoc, List.append_assoc, ihx, ihy]; simp [run, stepM]

/-- the marks of a pile of trees, the first of which lies on top -/
def flatR (st : List Tm) : List Mk := st.reverse.flatMap encT

theorem flatR_cons (T : Tm) (st : List Tm) : flatR (T :: st) = flatR st ++ encT T := by
  unfold flatR
  rw [List.reverse_cons, List.flatMap_append]
  simp

theorem flatR_lt (b : Bool) (st : List Tm) : flatR (.lt b :: st) = flatR st ++ [letM b] := by rw [flatR_cons]; rfl

theorem flatR_no (x : Tm) (st : List Tm) : flatR (.no x :: st) = flatR (x :: st) ++ [(1, 0)] := by rw [flatR_cons, flatR_cons, encT, List.append_assoc]

theorem flatR_an (x y : Tm) (st : List Tm) : flatR (.an x y :: st) = flatR (y :: x :: st) ++ [(2, 0)] := by rw [flatR_cons, flatR_cons, flatR_cons, encT]; simp only [List.append_assoc]

theorem flatR_vel (x y : Tm) (st : List Tm) : flatR (.vel x y :: st) = flatR (y :: x :: st) ++ [(3, 0)] := by rw [flatR_cons, flatR_cons, flatR_cons, encT]; simp only [List.append_assoc]

theorem step_flat {st st' : List Tm} {m : Mk} (h : stepM st m = some st') : flatR st ++ [m] = flatR st' ∧ cntS (some st.length) m = some st'.length := by
  unfold stepM at h
  split at h
  · next e => subst e; obtain rfl := Option.some.inj h; exact ⟨by rw [flatR_lt]; rfl, by simp [cntS]⟩
  split at h
  · next e => subst e; obtain rfl := Option.some.inj h; exact ⟨by rw [flatR_lt]; rfl, by simp [cntS]⟩
  split at h
  · next e =>
    subst e
    match st, h with
    | x :: st, h => obtain rfl := Option.some.inj h; exact ⟨by rw [flatR_no], by simp [cntS]⟩
  split at h
  · next e =>
    subst e
    match st, h with
    | y :: x :: st, h => obtain rfl := Option.some.inj h; exact ⟨by rw [flatR_an], by simp [cntS]⟩
  split at h
  · next e =>
    subst e
    match st, h with
    | y :: x :: st, h => obtain rfl := Option.some.inj h; exact ⟨by rw [flatR_vel], by simp [cntS]⟩
  · cases h

theorem step_none {st : List Tm} {m : Mk} (h : stepM st m = none) : cntS (some st.length) m = none := by
  unfold stepM at h
  split at h
  · cases h
  next e1 =>
  split at h
  · cases h
  next e2 =>
  split at h
  · next e =>
    subst e
    match st, h with
    | [], h => simp [cntS]
  next e3 =>
  split at h
  · next e =>
    subst e
    match st, h with
    | [], h => simp [cntS]
    | [x], h => simp [cntS]
  next e4 =>
  split at h
  · next e =>
    subst e
    match st, h with
    | [], h => simp [cntS]
    | [x], h => simp [cntS]
  next e5 => simp [cntS, e1, e2, e3, e4, e5]

theorem run_flat {l : List Mk} {st st' : List Tm} (h : run st l = some st') : flatR st ++ l = flatR st' ∧ l.foldl cntS (some st.length) = some st'.length := by
  induction l generalizing st with
  | nil => obtain rfl := Option.some.inj h; exact ⟨by simp, rfl⟩
  | cons m l ih =>
    rw [run] at h
    cases hs : stepM st m with
    | none => rw [hs] at h; cases h
    | some s1 =>
      rw [hs] at h
      obtain ⟨h1, h2⟩ := step_flat hs
      obtain ⟨h3, h4⟩ := ih h
      refine ⟨?_, ?_⟩
      · rw [← h3, ← h1]; simp
      · rw [List.foldl_cons, h2]; exact h4

theorem run_no {l : List Mk} {st : List Tm} (h : run st l = none) : l.foldl cntS (some st.length) = none := by
  induction l generalizing st with
  | nil => cases h
  | cons m l ih =>
    rw [run] at h
    cases hs : stepM st m with
    | none => rw [List.foldl_cons, step_none hs]; exact cnt_none l
    | some s1 =>
      rw [hs] at h
      rw [List.foldl_cons, (step_flat hs).2]
      exact ih h

/-- a row of marks that leaves one part is the marks of a tree -/
theorem cnt_tree {l : List Mk} (h : cnt l = some 1) : ∃ T, encT T = l := by
  cases hr : run [] l with
  | none => rw [show cnt l = none from run_no hr] at h; cases h
  | some st =>
    obtain ⟨h1, h2⟩ := run_flat hr
    rw [show l.foldl cntS (some ([] : List Tm).length) = cnt l from rfl, h] at h2
    have h3 := Option.some.inj h2
    match st, h3 with
    | [T], _ => exact ⟨T, by rw [show l = flatR [T] from by rw [← h1]; simp [flatR]]; simp [flatR]⟩

theorem tree_cnt (T : Tm) : cnt (encT T) = some 1 := by
  have h := run_enc T [] []
  rw [List.append_nil] at h
  exact (run_flat (st := []) (st' := [T]) h).2

theorem enc_inj {T U : Tm} (h : encT T = encT U) : T = U := by
  have h1 := run_enc T [] []
  have h2 := run_enc U [] []
  rw [h, h2] at h1
  have h3 := Option.some.inj h1
  injection h3 with h3
  exact h3.symm

theorem tm_tree {l : List Mk} (h : tmB l = true) : ∃ T, encT T = l ∧ l.length ≤ 40 := by
  obtain ⟨h1, h2⟩ := (tmB_iff l).1 h
  obtain ⟨T, hT⟩ := cnt_tree h1
  exact ⟨T, hT, h2⟩

theorem tree_tm {T : Tm} (h : (encT T).length ≤ 40) : tmB (encT T) = true := (tmB_iff _).2 ⟨tree_cnt T, h⟩

/-! events of terms -/

def evT : Tm → Nat
  | .lt b => if b = true then 12 else 10
  | .no t => 15 - evT t
  | .an x y => evT x &&& evT y
  | .vel x y => evT x ||| evT y

theorem evT_16 (T : Tm) : evT T < 16 := by
  induction T with
  | lt b => cases b <;> decide
  | no t ih => simp only [evT]; omega
  | an x y ihx ihy => simp only [evT]; exact Nat.lt_of_le_of_lt Nat.and_le_left ihx
  | vel x y ihx ihy => simp only [evT]; exact Nat.or_lt_two_pow (n := 4) ihx ihy

/-! texts of terms -/

/-- how a term binds: its last mark -/
def ownT : Tm → Nat
  | .vel _ _ => 0
  | .an _ _ => 1
  | _ => 2

def brk (b : Bool) (s : List UInt8) : List UInt8 := if b = true then 40 :: (s ++ [41]) else s

def txtT : Tm → List UInt8
  | .lt b => [if b = true then 98 else 97]
  | .no t => 33 :: brk (decide (ownT t < 2)) (txtT t)
  | .an x y => brk (decide (ownT x < 1)) (txtT x) ++ 38 :: brk (decide (ownT y < 2)) (txtT y)
  | .vel x y => txtT x ++ 124 :: brk (decide (ownT y < 1)) (txtT y)

/-- a part, in brackets if it binds less -/
def heldT (b : Nat) (t : Tm) : List UInt8 := brk (decide (ownT t < b)) (txtT t)

theorem brk_len (b : Bool) (s : List UInt8) : (brk b s).length ≤ s.length + 2 := by
  unfold brk
  split <;> simp

/-- a text has at most three bytes for each mark, less two -/
theorem txt_len (T : Tm) : (txtT T).length + 2 ≤ 3 * (encT T).length ∧ 1 ≤ (txtT T).length := by
  induction T with
  | lt b => simp [txtT, encT]
  | no t ih =>
    have h1 := brk_len (decide (ownT t < 2)) (txtT t)
    simp only [txtT, encT, List.length_cons, List.length_append, List.length_nil]
    omega
  | an x y ihx ihy =>
    have h1 := brk_len (decide (ownT x < 1)) (txtT x)
    have h2 := brk_len (decide (ownT y < 2)) (txtT y)
    simp only [txtT, encT, List.length_cons, List.length_append, List.length_nil]
    omega
  | vel x y ihx ihy =>
    have h2 := brk_len (decide (ownT y < 1)) (txtT y)
    simp only [txtT, encT, List.length_cons, List.length_append, List.length_nil]
    omega

/-! how texts are read -/

inductive Md where
  | atom
  | conj
  | conjL (t : Tm)
  | disj
  | disjL (t : Tm)

def prs : Nat → Md → List UInt8 → Option (Tm × List UInt8)
  | 0, _, _ => none
  | f + 1, .atom, [] => none
  | f + 1, .atom, c :: r =>
    if c = 97 then some (.lt false, r)
    else if c = 98 then some (.lt true, r)
    else if c = 33 then (prs f .atom r).map fun p => (.no p.1, p.2)
    else if c = 40 then (match prs f .disj r with | some (t, d :: r') => if d = 41 then some (t, r') else none | _ => none)
    else none
  | f + 1, .conj, s => (prs f .atom s).bind fun p => prs f (.conjL p.1) p.2
  | f + 1, .conjL t, [] => some (t, [])
  | f + 1, .conjL t, c :: r => if c = 38 then (prs f .atom r).bind fun p => prs f (.conjL (.an t p.1)) p.2 else some (t, c :: r)
  | f + 1, .disj, s => (prs f .conj s).bind fun p => prs f (.disjL p.1) p.2
  | f + 1, .disjL t, [] => some (t, [])
  | f + 1, .disjL t, c :: r => if c = 124 then (prs f .conj r).bind fun p => prs f (.disjL (.vel t p.1)) p.2 else some (t, c :: r)

theorem prs_more (f : Nat) : ∀ (m : Md) (s : List UInt8) (x : Tm × List UInt8), prs f m s = some x → prs (f + 1) m s = some x := by
  induction f with
  | zero => intro m s x h; simp [prs] at h
  | succ f ih =>
    intro m s x h
    match m, s, h with
    | .atom, [], h => simp [prs] at h
    | .atom, c :: r, h =>
      rw [prs] at h ⊢
      split at h
      · next e => rw [if_pos e]; exact h
      next e1 =>
      rw [if_neg e1]
      split at h
      · next e => rw [if_pos e]; exact h
      next e2 =>
      rw [if_neg e2]
      split at h
      · next e =>
        rw [if_pos e]
        cases hp : prs f .atom r with
        | none => rw [hp] at h; cases h
        | some p => rw [hp] at h; rw [ih _ _ _ hp]; exact h
      next e3 =>
      rw [if_neg e3]
      split at h
      · next e =>
        rw [if_pos e]
        cases hp : prs f .disj r with
        | none => rw [hp] at h; cases h
        | some p => rw [hp] at h; rw [ih _ _ _ hp]; exact h
      · cases h
    | .conj, s, h =>
      rw [prs] at h ⊢
      cases hp : prs f .atom s with
      | none => rw [hp] at h; cases h
      | some p => rw [hp] at h; rw [ih _ _ _ hp]; exact ih _ _ _ h
    | .conjL t, [], h => rw [prs] at h ⊢; exact h
    | .conjL t, c :: r, h =>
      rw [prs] at h ⊢
      split at h
      · next e =>
        rw [if_pos e]
        cases hp : prs f .atom r with
        | none => rw [hp] at h; cases h
        | some p => rw [hp] at h; rw [ih _ _ _ hp]; exact ih _ _ _ h
      · next e => rw [if_neg e]; exact h
    | .disj, s, h =>
      rw [prs] at h ⊢
      cases hp : prs f .conj s with
      | none => rw [hp] at h; cases h
      | some p => rw [hp] at h; rw [ih _ _ _ hp]; exact ih _ _ _ h
    | .disjL t, [], h => rw [prs] at h ⊢; exact h
    | .disjL t, c :: r, h =>
      rw [prs] at h ⊢
      split at h
      · next e =>
        rw [if_pos e]
        cases hp : prs f .conj r with
        | none => rw [hp] at h; cases h
        | some p => rw [hp] at h; rw [ih _ _ _ hp]; exact ih _ _ _ h
      · next e => rw [if_neg e]; exact h

theorem prs_mono {f g : Nat} {m : Md} {s : List UInt8} {x : Tm × List UInt8} (h : prs f m s = some x) (hfg : f ≤ g) : prs g m s = some x := by
  obtain ⟨d, rfl⟩ : ∃ d, g = f + d := ⟨g - f, by omega⟩
  clear hfg
  induction d with
  | zero => exact h
  | succ d ih => exact prs_more _ _ _ _ ih

/-- from here T is read, and r is left -/
def Rds (m : Md) (s : List UInt8) (T : Tm) (r : List UInt8) : Prop := ∃ f, prs f m s = some (T, r)

theorem Rds.det {m : Md} {s : List UInt8} {T U : Tm} {r q : List UInt8} (h : Rds m s T r) (k : Rds m s U q) : T = U ∧ r = q := by
  obtain ⟨f, hf⟩ := h
  obtain ⟨g, hg⟩ := k
  have h1 := prs_mono hf (Nat.le_max_left f g)
  have h2 := prs_mono hg (Nat.le_max_right f g)
  rw [h1] at h2
  have h3 := Option.some.inj h2
  injection h3 with h4 h5
  exact ⟨h4, h5⟩

theorem rds_nil (T : Tm) (r : List UInt8) : ¬ Rds .atom [] T r := by
  rintro ⟨f, hf⟩
  cases f <;> simp [prs] at hf

theorem rds_a (s : List UInt8) (T : Tm) (r : List UInt8) : Rds .atom (97 :: s) T r ↔ T = .lt false ∧ r = s := by
  constructor
  · rintro ⟨f, hf⟩
    cases f with
    | zero => simp [prs] at hf
    | succ f => simp [prs] at hf; exact ⟨hf.1.symm, hf.2.symm⟩
  · rintro ⟨rfl, rfl⟩; exact ⟨1, by simp [prs]⟩

theorem rds_b (s : List UInt8) (T : Tm) (r : List UInt8) : Rds .atom (98 :: s) T r ↔ T = .lt true ∧ r = s := by
  constructor
  · rintro ⟨f, hf⟩
    cases f with
    | zero => simp [prs] at hf
    | succ f => simp [prs] at hf; exact ⟨hf.1.symm, hf.2.symm⟩
  · rintro ⟨rfl, rfl⟩; exact ⟨1, by simp [prs]⟩

theorem rds_no (s : List UInt8) (T : Tm) (r : List UInt8) : Rds .atom (33 :: s) T r ↔ ∃ x, Rds .atom s x r ∧ T = .no x := by
  constructor
  · rintro ⟨f, hf⟩
    cases f with
    | zero => simp [prs] at hf
    | succ f =>
      simp [prs] at hf
      obtain ⟨x, hx, h2⟩ := hf
      exact ⟨x, ⟨f, hx⟩, h2.symm⟩
  · rintro ⟨x, ⟨f, hf⟩, rfl⟩
    exact ⟨f + 1, by simp [prs, hf]⟩

theorem rds_br (s : List UInt8) (T : Tm) (r : List UInt8) : Rds .atom (40 :: s) T r ↔ Rds .disj s T (41 :: r) := by
  constructor
  · rintro ⟨f, hf⟩
    cases f with
    | zero => simp [prs] at hf
    | succ f =>
      rw [prs] at hf
      simp only [show ((40 : UInt8) = 97) = False from by decide, show ((40 : UInt8) = 98) = False from by decide, show ((40 : UInt8) = 33) = False from by decide, if_false, if_true] at hf
      split at hf
      · next t d r' hp =>
        split at hf
        · next e =>
          subst e
          have h3 := Option.some.inj hf
          injection h3 with h4 h5
          subst h4 h5
          exact ⟨f, hp⟩
        · cases hf
      · cases hf
  · rintro ⟨f, hf⟩
    refine ⟨f + 1, ?_⟩
    rw [prs]
    simp only [show ((40 : UInt8) = 97) = False from by decide, show ((40 : UInt8) = 98) = False from by decide, show ((40 : UInt8) = 33) = False from by decide, if_false, if_true, hf]

theorem rds_else {c : UInt8} (h1 : c ≠ 97) (h2 : c ≠ 98) (h3 : c ≠ 33) (h4 : c ≠ 40) (s : List UInt8) (T : Tm) (r : List UInt8) : ¬ Rds .atom (c :: s) T r := by
  rintro ⟨f, hf⟩
  cases f with
  | zero => simp [prs] at hf
  | succ f => simp [prs, h1, h2, h3, h4] at hf

theorem rds_conj (s : List UInt8) (T : Tm) (r : List UInt8) : Rds .conj s T r ↔ ∃ x q, Rds .atom s x q ∧ Rds (.conjL x) q T r := by
  constructor
  · rintro ⟨f, hf⟩
    cases f with
    | zero => simp [prs] at hf
    | succ f =>
      rw [prs] at hf
      cases hp : prs f .atom s with
      | none => rw [hp] at hf; cases hf
      | some p => rw [hp] at hf; exact ⟨p.1, p.2, ⟨f, hp⟩, ⟨f, hf⟩⟩
  · rintro ⟨x, q, ⟨f, hf⟩, ⟨g, hg⟩⟩
    refine ⟨max f g + 1, ?_⟩
    rw [prs, prs_mono hf (Nat.le_max_left f g)]
    exact prs_mono hg (Nat.le_max_right f g)

theorem rds_disj (s : List UInt8) (T : Tm) (r : List UInt8) : Rds .disj s T r ↔ ∃ x q, Rds .conj s x q ∧ Rds (.disjL x) q T r := by
  constructor
  · rintro ⟨f, hf⟩
    cases f with
    | zero => simp [prs] at hf
    | succ f =>
      rw [prs] at hf
      cases hp : prs f .conj s with
      | none => rw [hp] at hf; cases hf
      | some p => rw [hp] at hf; exact ⟨p.1, p.2, ⟨f, hp⟩, ⟨f, hf⟩⟩
  · rintro ⟨x, q, ⟨f, hf⟩, ⟨g, hg⟩⟩
    refine ⟨max f g + 1, ?_⟩
    rw [prs, prs_mono hf (Nat.le_max_left f g)]
    exact prs_mono hg (Nat.le_max_right f g)

theorem rds_conjL (t : Tm) (s : List UInt8) (T : Tm) (r : List UInt8) : Rds (.conjL t) (38 :: s) T r ↔ ∃ x q, Rds .atom s x q ∧ Rds (.conjL (.an t x)) q T r := by
  constructor
  · rintro ⟨f, hf⟩
    cases f with
    | zero => simp [prs] at hf
    | succ f =>
      rw [prs, if_pos rfl] at hf
      cases hp : prs f .atom s with
      | none => rw [hp] at hf; cases hf
      | some p => rw [hp] at hf; exact ⟨p.1, p.2, ⟨f, hp⟩, ⟨f, hf⟩⟩
  · rintro ⟨x, q, ⟨f, hf⟩, ⟨g, hg⟩⟩
    refine ⟨max f g + 1, ?_⟩
    rw [prs, if_pos rfl, prs_mono hf (Nat.le_max_left f g)]
    exact prs_mono hg (Nat.le_max_right f g)

theorem rds_disjL (t : Tm) (s : List UInt8) (T : Tm) (r : List UInt8) : Rds (.disjL t) (124 :: s) T r ↔ ∃ x q, Rds .conj s x q ∧ Rds (.disjL (.vel t x)) q T r := by
  constructor
  · rintro ⟨f, hf⟩
    cases f with
    | zero => simp [prs] at hf
    | succ f =>
      rw [prs, if_pos rfl] at hf
      cases hp : prs f .conj s with
      | none => rw [hp] at hf; cases hf
      | some p => rw [hp] at hf; exact ⟨p.1, p.2, ⟨f, hp⟩, ⟨f, hf⟩⟩
  · rintro ⟨x, q, ⟨f, hf⟩, ⟨g, hg⟩⟩
    refine ⟨max f g + 1, ?_⟩
    rw [prs, if_pos rfl, prs_mono hf (Nat.le_max_left f g)]
    exact prs_mono hg (Nat.le_max_right f g)

theorem rds_conj_stop {t : Tm} {s : List UInt8} (h : s.head? ≠ some 38) (T : Tm) (r : List UInt8) : Rds (.conjL t) s T r ↔ T = t ∧ r = s := by
  have hv : ∀ f, prs (f + 1) (.conjL t) s = some (t, s) := by
    intro f
    cases s with
    | nil => rfl
    | cons c s =>
      rw [prs, if_neg]
      intro e; subst e; exact h rfl
  constructor
  · rintro ⟨f, hf⟩
    have := prs_more _ _ _ _ hf
    rw [hv] at this
    have h3 := Option.some.inj this
    injection h3 with h4 h5
    exact ⟨h4.symm, h5.symm⟩
  · rintro ⟨rfl, rfl⟩; exact ⟨1, hv 0⟩

theorem rds_disj_stop {t : Tm} {s : List UInt8} (h : s.head? ≠ some 124) (T : Tm) (r : List UInt8) : Rds (.disjL t) s T r ↔ T = t ∧ r = s := by
  have hv : ∀ f, prs (f + 1) (.disjL t) s = some (t, s) := by
    intro f
    cases s with
    | nil => rfl
    | cons c s =>
      rw [prs, if_neg]
      intro e; subst e; exact h rfl
  constructor
  · rintro ⟨f, hf⟩
    have := prs_more _ _ _ _ hf
    rw [hv] at this
    have h3 := Option.some.inj this
    injection h3 with h4 h5
    exact ⟨h4.symm, h5.symm⟩
  · rintro ⟨rfl, rfl⟩; exact ⟨1, hv 0⟩

/-- something is read: what is left is shorter -/
def wt : Md → Nat
  | .conjL _ => 0
  | .disjL _ => 0
  | _ => 1

theorem prs_len (f : Nat) : ∀ (m : Md) (s : List UInt8) (x : Tm × List UInt8), prs f m s = some x → x.2.length + wt m ≤ s.length := by
  induction f with
  | zero => intro m s x h; simp [prs] at h
  | succ f ih =>
    intro m s x h
    match m, s, h with
    | .atom, [], h => simp [prs] at h
    | .atom, c :: r, h =>
      rw [prs] at h
      split at h
      · obtain rfl := Option.some.inj h; simp [wt]
      split at h
      · obtain rfl := Option.some.inj h; simp [wt]
      split at h
      · cases hp : prs f .atom r with
        | none => rw [hp] at h; cases h
        | some p =>
          rw [hp] at h
          obtain rfl := Option.some.inj h
          have := ih _ _ _ hp
          simp [wt] at this ⊢
          omega
      split at h
      · split at h
        · next t d r' hp =>
          split at h
          · obtain rfl := Option.some.inj h
            have := ih _ _ _ hp
            simp [wt] at this ⊢
            omega
          · cases h
        · cases h
      · cases h
    | .conj, s, h =>
      rw [prs] at h
      cases hp : prs f .atom s with
      | none => rw [hp] at h; cases h
      | some p =>
        rw [hp] at h
        have h1 := ih _ _ _ hp
        have h2 := ih _ _ _ h
        simp [wt] at h1 h2 ⊢
        omega
    | .conjL t, [], h => rw [prs] at h; obtain rfl := Option.some.inj h; simp [wt]
    | .conjL t, c :: r, h =>
      rw [prs] at h
      split at h
      · cases hp : prs f .atom r with
        | none => rw [hp] at h; cases h
        | some p =>
          rw [hp] at h
          have h1 := ih _ _ _ hp
          have h2 := ih _ _ _ h
          simp [wt] at h1 h2 ⊢
          omega
      · obtain rfl := Option.some.inj h; simp [wt]
    | .disj, s, h =>
      rw [prs] at h
      cases hp : prs f .conj s with
      | none => rw [hp] at h; cases h
      | some p =>
        rw [hp] at h
        have h1 := ih _ _ _ hp
        have h2 := ih _ _ _ h
        simp [wt] at h1 h2 ⊢
        omega
    | .disjL t, [], h => rw [prs] at h; obtain rfl := Option.some.inj h; simp [wt]
    | .disjL t, c :: r, h =>
      rw [prs] at h
      split at h
      · cases hp : prs f .conj r with
        | none => rw [hp] at h; cases h
        | some p =>
          rw [hp] at h
          have h1 := ih _ _ _ hp
          have h2 := ih _ _ _ h
          simp [wt] at h1 h2 ⊢
          omega
      · obtain rfl := Option.some.inj h; simp [wt]

theorem Rds.len {m : Md} {s : List UInt8} {T : Tm} {r : List UInt8} (h : Rds m s T r) : r.length + wt m ≤ s.length := by
  obtain ⟨f, hf⟩ := h
  exact prs_len f m s _ hf

/-- the texts of terms are read -/
theorem reads (T : Tm) : (∀ r, Rds .atom (heldT 2 T ++ r) T r) ∧ (∀ r U q, Rds (.conjL T) r U q → Rds .conj (heldT 1 T ++ r) U q) ∧ (∀ r U q, r.head? ≠ some 38 → Rds (.disjL T) r U q → Rds .disj (txtT T ++ r) U q) := by
  have conjOf : ∀ T : Tm, heldT 1 T = heldT 2 T → (∀ r, Rds .atom (heldT 2 T ++ r) T r) → ∀ r U q, Rds (.conjL T) r U q → Rds .conj (heldT 1 T ++ r) U q := by
    intro T he h2 r U q h
    rw [he, rds_conj]
    exact ⟨T, r, h2 r, h⟩
  have disjOf : ∀ T : Tm, heldT 1 T = txtT T → (∀ r U q, Rds (.conjL T) r U q → Rds .conj (heldT 1 T ++ r) U q) → ∀ r U q, r.head? ≠ some 38 → Rds (.disjL T) r U q → Rds .disj (txtT T ++ r) U q := by
    intro T he h1 r U q hr h
    rw [rds_disj]
    refine ⟨T, r, ?_, h⟩
    rw [← he]
    exact h1 r T r ((rds_conj_stop hr _ _).2 ⟨rfl, rfl⟩)
  have atomOf : ∀ T : Tm, heldT 2 T = 40 :: (txtT T ++ [41]) → (∀ r U q, r.head? ≠ some 38 → Rds (.disjL T) r U q → Rds .disj (txtT T ++ r) U q) → ∀ r, Rds .atom (heldT 2 T ++ r) T r := by
    intro T he h0 r
    rw [he, List.cons_append, List.append_assoc, rds_br]
    exact h0 ([41] ++ r) T (41 :: r) (by simp) ((rds_disj_stop (by simp) _ _).2 ⟨rfl, rfl⟩)
  induction T with
  | lt b =>
    have a : ∀ r, Rds .atom (heldT 2 (.lt b) ++ r) (.lt b) r := by
      intro r
      cases b
      · exact (rds_a r _ _).2 ⟨rfl, rfl⟩
      · exact (rds_b r _ _).2 ⟨rfl, rfl⟩
    have c := conjOf (.lt b) rfl a
    exact ⟨a, c, disjOf (.lt b) rfl c⟩
  | no t ih =>
    have a : ∀ r, Rds .atom (heldT 2 (.no t) ++ r) (.no t) r := by
      intro r
      show Rds .atom (33 :: (heldT 2 t ++ r)) (.no t) r
      rw [rds_no]
      exact ⟨t, ih.1 r, rfl⟩
    have c := conjOf (.no t) rfl a
    exact ⟨a, c, disjOf (.no t) rfl c⟩
  | an x y ihx ihy =>
    have c : ∀ r U q, Rds (.conjL (.an x y)) r U q → Rds .conj (heldT 1 (.an x y) ++ r) U q := by
      intro r U q h
      show Rds .conj ((heldT 1 x ++ 38 :: heldT 2 y) ++ r) U q
      rw [List.append_assoc, List.cons_append]
      apply ihx.2.1
      rw [rds_conjL]
      exact ⟨y, r, ihy.1 r, h⟩
    have d := disjOf (.an x y) rfl c
    exact ⟨atomOf (.an x y) rfl d, c, d⟩
  | vel x y ihx ihy =>
    have d : ∀ r U q, r.head? ≠ some 38 → Rds (.disjL (.vel x y)) r U q → Rds .disj (txtT (.vel x y) ++ r) U q := by
      intro r U q hr h
      show Rds .disj ((txtT x ++ 124 :: heldT 1 y) ++ r) U q
      rw [List.append_assoc, List.cons_append]
      apply ihx.2.2 _ _ _ (by simp)
      rw [rds_disjL]
      refine ⟨y, r, ?_, h⟩
      exact ihy.2.1 r y r ((rds_conj_stop hr _ _).2 ⟨rfl, rfl⟩)
    have a := atomOf (.vel x y) rfl d
    exact ⟨a, conjOf (.vel x y) rfl a, d⟩

theorem read_txt (T : Tm) : Rds .disj (txtT T) T [] := by
  have := (reads T).2.2 [] T [] (by simp) ((rds_disj_stop (by simp) _ _).2 ⟨rfl, rfl⟩)
  rwa [List.append_nil] at this

theorem txt_inj {T U : Tm} (h : txtT T = txtT U) : T = U := by
  have h1 := read_txt T
  rw [h] at h1
  exact (h1.det (read_txt U)).1

/-- a text in brackets is the text of no term -/
theorem txt_brackets (T U : Tm) : txtT U ≠ 40 :: (txtT T ++ [41]) := by
  intro h
  have h1 := read_txt U
  rw [h] at h1
  have h2 : Rds .atom (40 :: (txtT T ++ [41])) T [] := by
    rw [rds_br]
    exact (reads T).2.2 [41] T [41] (by simp) ((rds_disj_stop (by simp) _ _).2 ⟨rfl, rfl⟩)
  have h3 : Rds .disj (40 :: (txtT T ++ [41])) T [] := by
    rw [rds_disj]
    refine ⟨T, [], ?_, (rds_disj_stop (by simp) _ _).2 ⟨rfl, rfl⟩⟩
    rw [rds_conj]
    exact ⟨T, [], h2, (rds_conj_stop (by simp) _ _).2 ⟨rfl, rfl⟩⟩
  obtain ⟨rfl, -⟩ := h1.det h3
  have := congrArg List.length h
  simp only [List.length_cons, List.length_append, List.length_nil] at this
  omega

/-- the term that a text is of -/
def ReadsB (s : List UInt8) (T : Tm) : Prop := txtT T = s ∧ (encT T).length ≤ 40 ∧ s.length ≤ 120

theorem ReadsB.one {s : List UInt8} {T U : Tm} (h : ReadsB s T) (k : ReadsB s U) : T = U := txt_inj (h.1.trans k.1.symm)

theorem reads_of {T : Tm} (h : (encT T).length ≤ 40) : ReadsB (txtT T) T := ⟨rfl, h, by have := txt_len T; omega⟩

/-! terms of events -/

def worldT (w : Nat) : Tm := .an (if w % 2 = 0 then .no (.lt false) else .lt false) (if w < 2 then .no (.lt true) else .lt true)

def addW (e : Nat) (o : Option Tm) (w : Nat) : Option Tm :=
  if e / 2 ^ w % 2 = 0 then o else match o with | none => some (worldT w) | some t => some (.vel t (worldT w))

def sumT (e : Nat) : Tm := (([0, 1, 2, 3].foldl (addW e) none).getD (.an (.lt false) (.no (.lt false))))

theorem sum_ev : ∀ e : Fin 16, evT (sumT (e : Nat)) = (e : Nat) := by decide

theorem sum_len : ∀ e : Fin 16, (encT (sumT (e : Nat))).length ≤ 40 := by decide

end Go.Proofs.YtfdlfgokoponmaaDoor
