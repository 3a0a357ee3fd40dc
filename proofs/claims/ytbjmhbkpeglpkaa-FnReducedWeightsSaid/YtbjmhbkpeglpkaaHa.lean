/- The facts of the laws of chapter 12: weights, what is learned, what is believed. No condition. -/
import Derived.Test.YtbjmhbkpeglpkaaWa
namespace Go.Proofs.Ytbjmhbkpeglpkaa
set_option linter.unusedVariables false

/-! common divisors -/

/-- the greatest common divisor of all -/
def gcn : List Int → Nat
  | [] => 0
  | x :: xs => Nat.gcd x.toNat (gcn xs)

theorem gcn_snoc (xs : List Int) (x : Int) : gcn (xs ++ [x]) = Nat.gcd (gcn xs) x.toNat := by
  induction xs with
  | nil => simp [gcn]
  | cons y ys ih => rw [List.cons_append, gcn, ih, gcn, Nat.gcd_assoc]

theorem gcn_take {xs : List Int} {k : Nat} {x : Int} (h : xs[k]? = some x) : gcn (xs.take (k + 1)) = Nat.gcd (gcn (xs.take k)) x.toNat := by
  rw [List.take_add_one, h, Option.toList_some, gcn_snoc]

theorem gcn_dvd {xs : List Int} {x : Int} (h : x ∈ xs) : gcn xs ∣ x.toNat := by
  induction xs with
  | nil => cases h
  | cons y ys ih =>
    rw [gcn]
    rcases List.mem_cons.1 h with rfl | h
    · exact Nat.gcd_dvd_left _ _
    · exact Nat.dvd_trans (Nat.gcd_dvd_right _ _) (ih h)

theorem gcn_pos {xs : List Int} {x : Int} (h : x ∈ xs) (hx : 0 < x) : 0 < gcn xs := by
  rcases Nat.eq_zero_or_pos (gcn xs) with h0 | h0
  · have := gcn_dvd h
    rw [h0, Nat.zero_dvd] at this
    omega
  · exact h0

/-- all times one number -/
theorem gcn_mul {c : Nat} {xs : List Int} (h : ∀ x ∈ xs, 0 ≤ x) : gcn (xs.map (fun x => (c : Int) * x)) = c * gcn xs := by
  induction xs with
  | nil => simp [gcn]
  | cons y ys ih =>
    have hy := h y (by simp)
    obtain ⟨n, rfl⟩ : ∃ n : Nat, y = n := ⟨y.toNat, by omega⟩
    rw [List.map_cons, gcn, ih (fun x hx => h x (List.mem_cons_of_mem _ hx)), gcn, Int.toNat_natCast, show ((c : Int) * (n : Int)).toNat = c * n from by rw [← Int.natCast_mul, Int.toNat_natCast], Nat.gcd_mul_left]

theorem gcn_le {xs : List Int} {x : Int} (h : x ∈ xs) (hx : 0 < x) : (gcn xs : Int) ≤ x := by
  have := Nat.le_of_dvd (by omega) (gcn_dvd h)
  omega

/-! weights -/

def wgtB (w : List Int) : Bool := w.all (fun x => inB x 0 1000000) && (inB (w.length : Int) 1 4 && w.any (fun x => decide (0 < x)))

theorem wgtB_iff (w : List Int) : wgtB w = true ↔ (∀ x ∈ w, 0 ≤ x ∧ x ≤ 1000000) ∧ (1 ≤ w.length ∧ w.length ≤ 4) ∧ ∃ x ∈ w, 0 < x := by
  simp only [wgtB, Bool.and_eq_true, List.all_eq_true, inB_iff, List.any_eq_true, decide_eq_true_eq]
  refine and_congr_right fun _ => and_congr_left fun _ => ?_
  omega

theorem wgt_gcn {w : List Int} (h : wgtB w = true) : 1 ≤ gcn w := by
  obtain ⟨-, -, x, hx, h0⟩ := (wgtB_iff w).1 h
  exact gcn_pos hx h0

/-- divided by the greatest common divisor -/
def redL (w : List Int) : List Int := w.map (fun x => x / (gcn w : Int))

def redR (w : List Int) : List Int := if wgtB w = true then redL w else []

theorem red_len (w : List Int) : (redL w).length = w.length := by simp [redL]

theorem red_at {w : List Int} {k : Nat} {x : Int} (h : w[k]? = some x) : (redL w)[k]? = some (x / (gcn w : Int)) := by rw [redL, List.getElem?_map, h]; rfl

/-- not below 0, and some above -/
def Wgt (w : List Int) : Prop := (∀ x ∈ w, 0 ≤ x) ∧ ∃ x ∈ w, 0 < x

theorem wgt_of {w : List Int} (h : wgtB w = true) : Wgt w := by
  obtain ⟨h1, -, h2⟩ := (wgtB_iff w).1 h
  exact ⟨fun x hx => (h1 x hx).1, h2⟩

theorem Wgt.pos {w : List Int} (h : Wgt w) : 1 ≤ gcn w := by
  obtain ⟨-, x, hx, h0⟩ := h
  exact gcn_pos hx h0

/-- the weights are the reduced ones, times the divisor -/
theorem red_scale {w : List Int} (h : Wgt w) {x : Int} (hx : x ∈ w) : x = (gcn w : Int) * (x / (gcn w : Int)) ∧ 0 ≤ x / (gcn w : Int) ∧ x / (gcn w : Int) ≤ x := by
  have h0 := h.1 x hx
  have hg := h.pos
  obtain ⟨n, rfl⟩ : ∃ n : Nat, x = n := ⟨x.toNat, by omega⟩
  have hd := gcn_dvd hx
  rw [Int.toNat_natCast] at hd
  refine ⟨(Int.mul_ediv_cancel' (by exact_mod_cast hd)).symm, Int.ediv_nonneg h0 (by omega), Int.ediv_le_self _ h0⟩

theorem red_map {w : List Int} (h : Wgt w) : (redL w).map (fun x => ((gcn w : Nat) : Int) * x) = w := by
  unfold redL
  rw [List.map_map]
  conv => rhs; rw [← List.map_id w]
  apply List.map_congr_left
  intro x hx
  exact ((red_scale h hx).1).symm

theorem red_nonneg {w : List Int} (h : Wgt w) : ∀ x ∈ redL w, 0 ≤ x := by
  intro x hx
  obtain ⟨y, hy, rfl⟩ := List.mem_map.1 hx
  exact (red_scale h hy).2.1

theorem red_wgt {w : List Int} (h : Wgt w) : Wgt (redL w) := by
  refine ⟨red_nonneg h, ?_⟩
  obtain ⟨x, hx, h0⟩ := h.2
  refine ⟨_, List.mem_map.2 ⟨x, hx, rfl⟩, ?_⟩
  have h1 := red_scale h hx
  rcases (show x / (gcn w : Int) = 0 ∨ 0 < x / (gcn w : Int) from by omega) with h2 | h2
  · rw [h2] at h1; omega
  · exact h2

theorem red_gcn {w : List Int} (h : Wgt w) : gcn (redL w) = 1 := by
  have h1 := gcn_mul (c := gcn w) (red_nonneg h)
  rw [red_map h] at h1
  have h2 := h.pos
  have h3 : gcn w * gcn (redL w) = gcn w * 1 := by omega
  exact Nat.eq_of_mul_eq_mul_left h2 h3

theorem wgt_red {w : List Int} (h : wgtB w = true) : wgtB (redL w) = true := by
  obtain ⟨h1, h2, -⟩ := (wgtB_iff w).1 h
  have hw := wgt_of h
  refine (wgtB_iff _).2 ⟨fun x hx => ?_, by rw [red_len]; exact h2, (red_wgt hw).2⟩
  obtain ⟨y, hy, rfl⟩ := List.mem_map.1 hx
  have := red_scale hw hy
  have := h1 y hy
  omega

/-- each two go alike in both -/
def Alike (u v : List Int) : Prop := ∀ (k j : Nat) (a b c d : Int), u[k]? = some a → u[j]? = some b → v[k]? = some c → v[j]? = some d → a * d = b * c

theorem one_alike {u v : List Int} (hl : u.length = v.length) (hu : ∀ x ∈ u, 0 ≤ x) (hv : ∀ x ∈ v, 0 ≤ x) (gu : gcn u = 1) (gv : gcn v = 1) (h : Alike u v) : u = v := by
  apply List.ext_getElem?
  intro j
  rcases Nat.lt_or_ge j u.length with hj | hj
  · have hb : u[j]? = some u[j] := List.getElem?_eq_getElem hj
    have hd : v[j]? = some (v[j]'(by omega)) := List.getElem?_eq_getElem (by omega)
    have b0 := hu _ (List.mem_of_getElem? hb)
    have d0 := hv _ (List.mem_of_getElem? hd)
    generalize u[j] = b at hb b0
    generalize v[j]'(by omega) = d at hd d0
    obtain ⟨m, rfl⟩ : ∃ m : Nat, b = m := ⟨b.toNat, by omega⟩
    obtain ⟨n, rfl⟩ : ∃ n : Nat, d = n := ⟨d.toNat, by omega⟩
    have e : u.map (fun x => ((n : Nat) : Int) * x) = v.map (fun x => ((m : Nat) : Int) * x) := by
      apply List.ext_getElem?
      intro k
      rw [List.getElem?_map, List.getElem?_map]
      rcases Nat.lt_or_ge k u.length with hk | hk
      · have ha : u[k]? = some u[k] := List.getElem?_eq_getElem hk
        have hc : v[k]? = some (v[k]'(by omega)) := List.getElem?_eq_getElem (by omega)
        rw [ha, hc, Option.map_some, Option.map_some, Int.mul_comm, h k j _ _ _ _ ha hb hc hd]
      · rw [List.getElem?_eq_none hk, List.getElem?_eq_none (by omega)]; rfl
    have h1 := gcn_mul (c := n) hu
    have h2 := gcn_mul (c := m) hv
    rw [e, h2, gu, gv] at h1
    rw [hb, hd, show n = m from by omega]
  · rw [List.getElem?_eq_none hj, List.getElem?_eq_none (by omega)]

theorem red_alike {u v : List Int} (hu : Wgt u) (hv : Wgt v) (h : Alike u v) : Alike (redL u) (redL v) := by
  intro k j a b c d ha hb hc hd
  simp only [redL, List.getElem?_map, Option.map_eq_some_iff] at ha hb hc hd
  obtain ⟨a', ha, rfl⟩ := ha
  obtain ⟨b', hb, rfl⟩ := hb
  obtain ⟨c', hc, rfl⟩ := hc
  obtain ⟨d', hd, rfl⟩ := hd
  have h0 := h k j a' b' c' d' ha hb hc hd
  have h1 := (red_scale hu (List.mem_of_getElem? ha)).1
  have h2 := (red_scale hu (List.mem_of_getElem? hb)).1
  have h3 := (red_scale hv (List.mem_of_getElem? hc)).1
  have h4 := (red_scale hv (List.mem_of_getElem? hd)).1
  have g1 : (0 : Int) < (gcn u : Int) := by have := hu.pos; omega
  have g2 : (0 : Int) < (gcn v : Int) := by have := hv.pos; omega
  generalize a' / (gcn u : Int) = a at h1 ⊢
  generalize b' / (gcn u : Int) = b at h2 ⊢
  generalize c' / (gcn v : Int) = c at h3 ⊢
  generalize d' / (gcn v : Int) = d at h4 ⊢
  generalize (gcn u : Int) = g at h1 h2 g1
  generalize (gcn v : Int) = e at h3 h4 g2
  subst h1 h2 h3 h4
  have h6 : g * e * (a * d - b * c) = 0 := by grind
  have := cancel (Int.mul_pos g1 g2) h6
  omega

/-- weights that go alike are reduced to the same -/
theorem red_same {u v : List Int} (hl : u.length = v.length) (hu : Wgt u) (hv : Wgt v) (h : Alike u v) : redL u = redL v :=
  one_alike (by rw [red_len, red_len, hl]) (red_nonneg hu) (red_nonneg hv) (red_gcn hu) (red_gcn hv) (red_alike hu hv h)

theorem alike_red {w : List Int} (h : Wgt w) : Alike (redL w) w := by
  intro k j a b c d ha hb hc hd
  rw [red_at hc] at ha
  rw [red_at hd] at hb
  obtain rfl := Option.some.inj ha
  obtain rfl := Option.some.inj hb
  have h1 := (red_scale h (List.mem_of_getElem? hc)).1
  have h2 := (red_scale h (List.mem_of_getElem? hd)).1
  generalize c / (gcn w : Int) = a at h1 ⊢
  generalize d / (gcn w : Int) = b at h2 ⊢
  rw [h1, h2]
  grind

theorem red_again {w : List Int} (h : Wgt w) : redL (redL w) = redL w := by
  show (redL w).map (fun x => x / ((gcn (redL w) : Nat) : Int)) = redL w
  rw [red_gcn h]
  conv => rhs; rw [← List.map_id (redL w)]
  apply List.map_congr_left
  intro x _
  simp

theorem red_twice {w : List Int} (h : Wgt w) : redL (w.map (fun x => 2 * x)) = redL w := by
  refine red_same (by simp) ⟨fun x hx => ?_, ?_⟩ h ?_
  · obtain ⟨y, hy, rfl⟩ := List.mem_map.1 hx
    have := h.1 y hy
    omega
  · obtain ⟨x, hx, h0⟩ := h.2
    exact ⟨_, List.mem_map.2 ⟨x, hx, rfl⟩, by omega⟩
  · intro k j a b c d ha hb hc hd
    rw [List.getElem?_map, hc] at ha
    rw [List.getElem?_map, hd] at hb
    obtain rfl := Option.some.inj ha
    obtain rfl := Option.some.inj hb
    grind

/-! what is learned -/

def eviB (W : Int) (row : List Int) : Bool := row.all (fun x => inB x 0 9) && (inB W 1 4 && ((row.length : Int) == W))

theorem eviB_iff (W : Int) (row : List Int) : eviB W row = true ↔ (∀ x ∈ row, 0 ≤ x ∧ x ≤ 9) ∧ (1 ≤ W ∧ W ≤ 4) ∧ (row.length : Int) = W := by
  simp only [eviB, Bool.and_eq_true, List.all_eq_true, inB_iff, beq_iff_eq]

/-- each times how likely it is in its world -/
def prodL (w row : List Int) : List Int := List.zipWith (· * ·) w row

theorem prod_at {w row : List Int} {k : Nat} {x y : Int} (h : w[k]? = some x) (h2 : row[k]? = some y) : (prodL w row)[k]? = some (x * y) := by
  rw [prodL, List.getElem?_zipWith, h, h2]

theorem prod_len {w row : List Int} (h : row.length = w.length) : (prodL w row).length = w.length := by rw [prodL, List.length_zipWith]; omega

theorem prod_mem {w row : List Int} {z : Int} (h : z ∈ prodL w row) : ∃ x ∈ w, ∃ y ∈ row, z = x * y := by
  obtain ⟨k, hk⟩ := List.mem_iff_getElem?.1 h
  rw [prodL, List.getElem?_zipWith] at hk
  cases hx : w[k]? with
  | none => rw [hx] at hk; simp at hk
  | some x =>
    cases hy : row[k]? with
    | none => rw [hx, hy] at hk; simp at hk
    | some y =>
      rw [hx, hy] at hk
      exact ⟨x, List.mem_of_getElem? hx, y, List.mem_of_getElem? hy, (Option.some.inj hk).symm⟩

theorem prod_swap (w a b : List Int) : prodL (prodL w a) b = prodL (prodL w b) a := by
  induction w generalizing a b with
  | nil => simp [prodL]
  | cons x w ih =>
    cases a with
    | nil => cases b <;> simp [prodL]
    | cons p a =>
      cases b with
      | nil => simp [prodL]
      | cons q b =>
        have := ih a b
        simp only [prodL, List.zipWith_cons_cons] at this ⊢
        rw [this]
        congr 1
        grind

def lrnB (w row : List Int) : Bool := wgtB w && (eviB (w.length : Int) row && wgtB (prodL w row))

def lrnR (w row : List Int) : List Int := if lrnB w row = true then redL (prodL w row) else []

theorem lrnB_iff (w row : List Int) : lrnB w row = true ↔ wgtB w = true ∧ eviB (w.length : Int) row = true ∧ wgtB (prodL w row) = true := by
  simp only [lrnB, Bool.and_eq_true]

theorem prod_alike {u v row : List Int} (hl : u.length = v.length) (h : Alike u v) : Alike (prodL u row) (prodL v row) := by
  intro k j a b c d ha hb hc hd
  rw [prodL, List.getElem?_zipWith] at ha hb hc hd
  cases hk : row[k]? with
  | none => rw [hk] at ha; cases hu : u[k]? <;> rw [hu] at ha <;> simp at ha
  | some y =>
    cases hj : row[j]? with
    | none => rw [hj] at hb; cases hu : u[j]? <;> rw [hu] at hb <;> simp at hb
    | some z =>
      rw [hk] at ha hc
      rw [hj] at hb hd
      cases h1 : u[k]? with
      | none => rw [h1] at ha; simp at ha
      | some a' =>
        cases h2 : u[j]? with
        | none => rw [h2] at hb; simp at hb
        | some b' =>
          cases h3 : v[k]? with
          | none => rw [h3] at hc; simp at hc
          | some c' =>
            cases h4 : v[j]? with
            | none => rw [h4] at hd; simp at hd
            | some d' =>
              rw [h1] at ha; rw [h2] at hb; rw [h3] at hc; rw [h4] at hd
              obtain rfl := Option.some.inj ha
              obtain rfl := Option.some.inj hb
              obtain rfl := Option.some.inj hc
              obtain rfl := Option.some.inj hd
              have := h k j a' b' c' d' h1 h2 h3 h4
              show a' * y * (d' * z) = b' * z * (c' * y)
              grind

/-- after the product reduced weights teach the same -/
theorem prod_red {w row : List Int} (hw : Wgt w) (hp : Wgt (prodL w row)) (hp2 : Wgt (prodL (redL w) row)) : redL (prodL (redL w) row) = redL (prodL w row) :=
  red_same (by simp [prodL, red_len]) hp2 hp (prod_alike (red_len w) (alike_red hw))

/-- with evidence that is 1 in each world the weights stay -/
theorem prod_ones (w : List Int) : prodL w (List.replicate w.length 1) = w := by
  induction w with
  | nil => rfl
  | cons x w ih => rw [prodL, List.length_cons, List.replicate_succ, List.zipWith_cons_cons, Int.mul_one]; congr 1

/-! what is learned row by row -/

theorem pos_of_mul {g x : Int} (hg : 0 < g) (h : 0 < g * x) : 0 < x := by
  apply Int.not_le.1
  intro hx
  have := Int.mul_nonpos_of_nonneg_of_nonpos (Int.le_of_lt hg) hx
  omega

def prodAll (w : List Int) (rows : List (List Int)) : List Int := rows.foldl prodL w

theorem pall_snoc (w : List Int) (rows : List (List Int)) (r : List Int) : prodAll w (rows ++ [r]) = prodL (prodAll w rows) r := by simp [prodAll]

theorem pall_take {w : List Int} {rows : List (List Int)} {k : Nat} {r : List Int} (h : rows[k]? = some r) : prodAll w (rows.take (k + 1)) = prodL (prodAll w (rows.take k)) r := by
  rw [List.take_add_one, h, Option.toList_some, pall_snoc]

theorem pall_perm {w : List Int} {a b : List (List Int)} (h : a.Perm b) : prodAll w a = prodAll w b := by
  unfold prodAll
  exact h.foldl_eq' (fun x _ y _ z => prod_swap z x y) w

/-- one is above 0 -/
def someB (w : List Int) : Bool := w.any (fun x => decide (0 < x))

def laB (w : List Int) (rows : List (List Int)) : Bool :=
  wgtB w && (w.all (fun x => decide (x ≤ 100)) && (decide (rows.length ≤ 4) && (rows.all (eviB (w.length : Int)) && someB (prodAll w rows))))

def laR (w : List Int) (rows : List (List Int)) : List Int := if laB w rows = true then redL (prodAll w rows) else []

theorem someB_iff (w : List Int) : someB w = true ↔ ∃ x ∈ w, 0 < x := by simp [someB]

theorem laB_iff (w : List Int) (rows : List (List Int)) : laB w rows = true ↔ wgtB w = true ∧ (∀ x ∈ w, x ≤ 100) ∧ rows.length ≤ 4 ∧ (∀ r ∈ rows, eviB (w.length : Int) r = true) ∧ ∃ x ∈ prodAll w rows, 0 < x := by
  simp only [laB, Bool.and_eq_true, List.all_eq_true, decide_eq_true_eq, someB_iff]

theorem la_perm {w : List Int} {a b : List (List Int)} (h : a.Perm b) : laB w a = laB w b ∧ laR w a = laR w b := by
  have h1 : laB w a = laB w b := by
    apply bool_eq
    rw [laB_iff, laB_iff, pall_perm h, h.length_eq]
    refine and_congr_right fun _ => and_congr_right fun _ => and_congr_right fun _ => and_congr_left fun _ => ?_
    exact ⟨fun k r hr => k r (h.mem_iff.2 hr), fun k r hr => k r (h.mem_iff.1 hr)⟩
  exact ⟨h1, by rw [laR, laR, h1, pall_perm h]⟩

/-- the products after some rows: so long, none below 0, none great -/
theorem pall_bound {w : List Int} {rows : List (List Int)} (hw : ∀ x ∈ w, 0 ≤ x ∧ x ≤ 100) (hr : ∀ r ∈ rows, eviB (w.length : Int) r = true) (k : Nat) (hk : k ≤ rows.length) :
    (prodAll w (rows.take k)).length = w.length ∧ ∀ x ∈ prodAll w (rows.take k), 0 ≤ x ∧ x ≤ 100 * 9 ^ k := by
  induction k with
  | zero => simpa [prodAll] using hw
  | succ k ih =>
    obtain ⟨h1, h2⟩ := ih (by omega)
    obtain ⟨r, hr0⟩ : ∃ r, rows[k]? = some r := ⟨_, List.getElem?_eq_getElem (by omega)⟩
    obtain ⟨e1, -, e3⟩ := (eviB_iff _ _).1 (hr r (List.mem_of_getElem? hr0))
    rw [pall_take hr0]
    refine ⟨by rw [prod_len (by omega)]; exact h1, fun z hz => ?_⟩
    obtain ⟨x, hx, y, hy, rfl⟩ := prod_mem hz
    have hx := h2 x hx
    have hy := e1 y hy
    refine ⟨Int.mul_nonneg hx.1 hy.1, ?_⟩
    have := Int.mul_le_mul hx.2 hy.2 hy.1 (Int.le_trans hx.1 hx.2)
    rw [Int.pow_succ, ← Int.mul_assoc]
    exact this

theorem nine_four {k : Nat} (h : k ≤ 4) : (100 : Int) * 9 ^ k ≤ 1000000 := by
  obtain rfl | rfl | rfl | rfl | rfl : k = 0 ∨ k = 1 ∨ k = 2 ∨ k = 3 ∨ k = 4 := by omega
  all_goals decide

/-- one more row: told just if the product has some weight, and then it is the reduced product -/
theorem la_step {w : List Int} {rows : List (List Int)} (hw : ∀ x ∈ w, 0 ≤ x ∧ x ≤ 100) (hw4 : 1 ≤ w.length ∧ w.length ≤ 4) (h4 : rows.length ≤ 4) (hr : ∀ r ∈ rows, eviB (w.length : Int) r = true) {k : Nat} {r : List Int} (hk : rows[k]? = some r) (hs : ∃ x ∈ prodAll w (rows.take k), 0 < x) :
    (lrnB (redL (prodAll w (rows.take k))) r = true ↔ ∃ x ∈ prodAll w (rows.take (k + 1)), 0 < x) ∧ (lrnB (redL (prodAll w (rows.take k))) r = true → lrnR (redL (prodAll w (rows.take k))) r = redL (prodAll w (rows.take (k + 1)))) := by
  have hkl : k < rows.length := (List.getElem?_eq_some_iff.1 hk).1
  obtain ⟨l1, b1⟩ := pall_bound hw hr k (by omega)
  obtain ⟨l2, b2⟩ := pall_bound hw hr (k + 1) (by omega)
  have n1 := nine_four (show k ≤ 4 by omega)
  have n2 := nine_four (show k + 1 ≤ 4 by omega)
  have hev := hr r (List.mem_of_getElem? hk)
  have hP : Wgt (prodAll w (rows.take k)) := ⟨fun x hx => (b1 x hx).1, hs⟩
  have hPW : wgtB (prodAll w (rows.take k)) = true := (wgtB_iff _).2 ⟨fun x hx => by have := b1 x hx; omega, by omega, hs⟩
  have hRW := wgt_red hPW
  have hlen : (redL (prodAll w (rows.take k))).length = w.length := by rw [red_len, l1]
  obtain ⟨e1, e2, e3⟩ := (eviB_iff _ _).1 hev
  rw [pall_take hk] at l2 b2 ⊢
  have hm : ∀ z ∈ prodL (redL (prodAll w (rows.take k))) r, 0 ≤ z ∧ z ≤ 1000000 := by
    intro z hz
    obtain ⟨x, hx, y, hy, rfl⟩ := prod_mem hz
    have hx0 := red_nonneg hP x hx
    obtain ⟨x', hx', rfl⟩ := List.mem_map.1 hx
    have hx3 := (red_scale hP hx').2.2
    have hx4 := b1 x' hx'
    have hy := e1 y hy
    refine ⟨Int.mul_nonneg hx0 hy.1, ?_⟩
    have h5 := Int.mul_le_mul (Int.le_trans hx3 hx4.2) hy.2 hy.1 (Int.le_trans hx4.1 hx4.2)
    rw [Int.pow_succ, ← Int.mul_assoc] at n2
    exact Int.le_trans h5 n2
  have key : (∃ x ∈ prodL (redL (prodAll w (rows.take k))) r, 0 < x) ↔ ∃ x ∈ prodL (prodAll w (rows.take k)) r, 0 < x := by
    have e : ∀ (j : Nat) (x y : Int), (prodAll w (rows.take k))[j]? = some x → r[j]? = some y → (0 < x / (gcn (prodAll w (rows.take k)) : Int) * y ↔ 0 < x * y) := by
      intro j x y hx hy
      have h1 := (red_scale hP (List.mem_of_getElem? hx)).1
      have g1 : (0 : Int) < (gcn (prodAll w (rows.take k)) : Int) := by have := hP.pos; omega
      generalize x / (gcn (prodAll w (rows.take k)) : Int) = q at h1 ⊢
      generalize (gcn (prodAll w (rows.take k)) : Int) = g at h1 g1
      subst h1
      rw [Int.mul_assoc]
      exact ⟨fun h => Int.mul_pos g1 h, fun h => pos_of_mul g1 h⟩
    constructor
    · rintro ⟨z, hz, h0⟩
      obtain ⟨j, hj⟩ := List.mem_iff_getElem?.1 hz
      rw [prodL, List.getElem?_zipWith, redL, List.getElem?_map] at hj
      cases hx : (prodAll w (rows.take k))[j]? with
      | none => rw [hx] at hj; simp at hj
      | some x =>
        cases hy : r[j]? with
        | none => rw [hx, hy] at hj; simp at hj
        | some y =>
          rw [hx, hy] at hj
          have hz2 := Option.some.inj hj
          rw [← hz2] at h0
          exact ⟨x * y, List.mem_of_getElem? (prod_at hx hy), (e j x y hx hy).1 h0⟩
    · rintro ⟨z, hz, h0⟩
      obtain ⟨j, hj⟩ := List.mem_iff_getElem?.1 hz
      rw [prodL, List.getElem?_zipWith] at hj
      cases hx : (prodAll w (rows.take k))[j]? with
      | none => rw [hx] at hj; simp at hj
      | some x =>
        cases hy : r[j]? with
        | none => rw [hx, hy] at hj; simp at hj
        | some y =>
          rw [hx, hy] at hj
          have hz2 := Option.some.inj hj
          rw [← hz2] at h0
          exact ⟨_, List.mem_of_getElem? (prod_at (red_at hx) hy), (e j x y hx hy).2 h0⟩
  have hpl : (prodL (redL (prodAll w (rows.take k))) r).length = w.length := by rw [prod_len (by omega), hlen]
  have hiff : lrnB (redL (prodAll w (rows.take k))) r = true ↔ ∃ x ∈ prodL (prodAll w (rows.take k)) r, 0 < x := by
    rw [lrnB_iff, hlen]
    constructor
    · rintro ⟨-, -, h⟩
      exact key.1 ((wgtB_iff _).1 h).2.2
    · intro h
      exact ⟨hRW, hev, (wgtB_iff _).2 ⟨hm, by omega, key.2 h⟩⟩
  refine ⟨hiff, fun h => ?_⟩
  rw [lrnR, if_pos h]
  have h2 := hiff.1 h
  exact prod_red hP ⟨fun x hx => (b2 x hx).1, h2⟩ ⟨fun x hx => (hm x hx).1, key.2 h2⟩

/-- what has no weight after some rows has none after all -/
theorem pall_none {w : List Int} {rows : List (List Int)} (hr : ∀ r ∈ rows, ∀ x ∈ r, 0 ≤ x) (k : Nat) (h : ∀ x ∈ prodAll w (rows.take k), x ≤ 0 ∧ 0 ≤ x) : ∀ x ∈ prodAll w rows, x ≤ 0 := by
  have : ∀ j, k ≤ j → ∀ x ∈ prodAll w (rows.take j), x ≤ 0 ∧ 0 ≤ x := by
    intro j
    induction j with
    | zero => intro hj; obtain rfl : k = 0 := by omega
              exact h
    | succ j ih =>
      intro hj
      rcases Nat.lt_or_ge j k with h1 | h1
      · obtain rfl : k = j + 1 := by omega
        exact h
      · cases hrj : rows[j]? with
        | none =>
          have hl : rows.length ≤ j := by
            rcases Nat.lt_or_ge j rows.length with h2 | h2
            · rw [List.getElem?_eq_getElem h2] at hrj; cases hrj
            · exact h2
          rw [List.take_of_length_le (by omega)]
          have := ih h1
          rwa [List.take_of_length_le hl] at this
        | some r =>
          rw [pall_take hrj]
          intro z hz
          obtain ⟨x, hx, y, hy, rfl⟩ := prod_mem hz
          have := ih h1 x hx
          obtain rfl : x = 0 := by omega
          simp
  intro x hx
  have := this (max k rows.length) (by omega) x (by rwa [List.take_of_length_le (by omega)])
  exact this.1

end Go.Proofs.Ytbjmhbkpeglpkaa
