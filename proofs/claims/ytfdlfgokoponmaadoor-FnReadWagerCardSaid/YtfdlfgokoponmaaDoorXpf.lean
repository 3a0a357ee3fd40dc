/- Facts of the program's machine of marks: the rows of parts that it owns, appends to them. Conditions: stated. (gen_xpf.py) -/
import Derived.Test.YtfdlfgokoponmaaDoorXpe
namespace Go.Proofs.YtfdlfgokoponmaaDoor
open Go.RowKit
set_option linter.unusedVariables false
set_option linter.unusedSimpArgs false

section
variable {α : Type} {e : TypeId} {c : Nat} {enc : α → List Value} {w : World} {base g n cp : Nat} {xs ys : List α}

theorem own_len (h : GOwn e c enc w base (.slice (some ⟨g, 0, none⟩) n cp) xs) : n = xs.length ∧ n ≤ cp ∧ cp ≤ maxLen ∧ base ≤ g ∧ g < w.heap.size := by
  have hge := h.ge g rfl
  rcases h.2 with ⟨hv, -⟩ | ⟨g', cap, cur, hv, hb, hg, hn, hm, hcs, ht⟩
  · cases hv
  · injection hv with h1 h2 h3
    subst h2 h3
    exact ⟨rfl, hn, hm, hge.1, hge.2⟩

theorem own_split (he : ∀ x, (enc x).length = c) (h : GOwn e c enc w base (.slice (some ⟨g, 0, none⟩) n cp) (xs ++ ys)) {k : Nat} (hk : xs.length = k) : GOwn e c enc w base (.slice (some ⟨g, 0, none⟩) k cp) xs := by
  subst hk
  have hlx := flat_len he xs
  rcases h.2 with ⟨hv, -⟩ | ⟨g', cap, cur, hv, hb, hg, hn, hm, hcs, ht⟩
  · cases hv
  · injection hv with h1 h2 h3
    injection h1 with h1
    injection h1 with h1
    subst h1 h3
    refine ⟨hlx, .inr ⟨g, cp, cur, rfl, hb, hg, by rw [List.length_append] at hn; omega, hm, hcs, ?_⟩⟩
    have h4 : xs.flatMap enc = ((xs ++ ys).flatMap enc).take (xs.length * c) := by
      rw [List.flatMap_append, ← hlx, List.take_left']
      rfl
    rw [h4, ← ht, List.take_take, Nat.min_eq_left]
    exact Nat.mul_le_mul_right _ (by rw [List.length_append]; omega)

theorem own_cell (he : ∀ x, (enc x).length = c) (h : GOwn e c enc w base (.slice (some ⟨g, 0, none⟩) n cp) xs) {i : Nat} {x : α} (hx : xs[i]? = some x) {j : Nat} {u : Value} (hu : (enc x)[j]? = some u) : w.cell? ⟨g, i * c + j, none⟩ = some u := by
  obtain ⟨-, h2⟩ := id h
  rcases h2 with ⟨hv, -⟩ | ⟨g', cap, cur, hv, -⟩
  · cases hv
  · have := World.ownsRow.cells (show w.ownsRow base e c (.slice (some ⟨g, 0, none⟩) xs.length cp) xs.length (xs.flatMap enc) from by
      have hn := (own_len h).1
      rw [hn] at h
      exact h) (g := g) rfl (i * c + j) u (flat_at he hx hu)
    rwa [addr_add, Nat.zero_add] at this

end

/-- the marks one by one -/
theorem run_take {t : List Mk} {k : Nat} {m : Mk} {st : List Tm} (hm : t[k]? = some m) (h : run [] (t.take k) = some st) : run [] (t.take (k + 1)) = stepM st m := by
  rw [List.take_add_one, hm, run_append, h]
  simp only [Option.toList, Option.bind_some, run]
  cases stepM st m <;> rfl

theorem run_stop {t : List Mk} {k : Nat} {m : Mk} {st : List Tm} (hm : t[k]? = some m) (h : run [] (t.take k) = some st) (hs : stepM st m = none) : tmB t = false := by
  have h1 := run_take hm h
  rw [hs] at h1
  have h2 : run [] t = none := by
    rw [← List.take_append_drop (k + 1) t, run_append, h1]; rfl
  rw [← Bool.not_eq_true, tmB_iff]
  rintro ⟨h3, -⟩
  have h4 := run_no h2
  rw [show ([] : List Tm).length = 0 from rfl] at h4
  rw [cnt, h4] at h3
  cases h3

theorem run_end {t : List Mk} {st : List Tm} (h : run [] t = some st) (hl : t.length ≤ 40) : (∃ T, st = [T] ∧ encT T = t ∧ tmB t = true) ∨ (st.length ≠ 1 ∧ tmB t = false) := by
  obtain ⟨h1, h2⟩ := run_flat h
  by_cases h3 : st.length = 1
  · obtain ⟨T, rfl⟩ := List.length_eq_one_iff.1 h3
    refine .inl ⟨T, rfl, ?_, (tmB_iff t).2 ⟨by rw [cnt]; exact h2, hl⟩⟩
    have h5 : flatR ([] : List Tm) = [] := rfl
    have h6 : flatR [T] = encT T := by simp [flatR]
    rw [h5, h6, List.nil_append] at h1
    exact h1.symm
  · refine .inr ⟨h3, ?_⟩
    rw [← Bool.not_eq_true, tmB_iff]
    rintro ⟨h4, -⟩
    rw [cnt] at h4
    rw [show ([] : List Tm).length = 0 from rfl, h4] at h2
    exact h3 (Option.some.inj h2).symm

theorem run_long {t : List Mk} (h : 40 < t.length) : tmB t = false := by
  rw [← Bool.not_eq_true, tmB_iff]
  omega

theorem run_size {t : List Mk} {st st' : List Tm} (h : run st t = some st') : st'.length ≤ st.length + t.length := by
  induction t generalizing st with
  | nil => obtain rfl := Option.some.inj h; simp
  | cons m t ih =>
    rw [run] at h
    cases hs : stepM st m with
    | none => rw [hs] at h; cases h
    | some s1 =>
      rw [hs] at h
      have h1 := ih h
      have h2 := (step_flat hs).2
      have h3 : s1.length ≤ st.length + 1 := by
        unfold cntS at h2
        split at h2
        · cases h2
        · next e =>
          obtain rfl := Option.some.inj e
          split at h2
          · have := Option.some.inj h2; omega
          split at h2
          · split at h2
            · have := Option.some.inj h2; omega
            · cases h2
          split at h2
          · split at h2
            · have := Option.some.inj h2; omega
            · cases h2
          · cases h2
      simp only [List.length_cons]
      omega

/-- a mark, the pile below it -/
theorem step_cases (st : List Tm) (m : Mk) :
    (∃ b, m = (0, (letM b).2) ∧ stepM st m = some (.lt b :: st)) ∨ (∃ x s, m = (1, 0) ∧ st = x :: s ∧ stepM st m = some (.no x :: s)) ∨
    (∃ y x s, m = (2, 0) ∧ st = y :: x :: s ∧ stepM st m = some (.an x y :: s)) ∨ (∃ y x s, m = (3, 0) ∧ st = y :: x :: s ∧ stepM st m = some (.vel x y :: s)) ∨
    (stepM st m = none ∧ ((m = (1, 0) ∧ st.length < 1) ∨ (m = (2, 0) ∧ st.length < 2) ∨ (m = (3, 0) ∧ st.length < 2) ∨ (¬ (m.1 = 0 ∧ m.2 = 0) ∧ ¬ (m.1 = 0 ∧ m.2 = 1) ∧ ¬ (m.1 = 1 ∧ m.2 = 0) ∧ ¬ (m.1 = 2 ∧ m.2 = 0) ∧ ¬ (m.1 = 3 ∧ m.2 = 0)))) := by
  obtain ⟨k, a⟩ := m
  by_cases h1 : k = 0 ∧ a = 0
  · obtain ⟨rfl, rfl⟩ := h1
    exact .inl ⟨false, rfl, rfl⟩
  by_cases h2 : k = 0 ∧ a = 1
  · obtain ⟨rfl, rfl⟩ := h2
    exact .inl ⟨true, rfl, rfl⟩
  by_cases h3 : k = 1 ∧ a = 0
  · obtain ⟨rfl, rfl⟩ := h3
    match st with
    | [] => exact .inr (.inr (.inr (.inr ⟨rfl, .inl ⟨rfl, by simp⟩⟩)))
    | x :: s => exact .inr (.inl ⟨x, s, rfl, rfl, rfl⟩)
  by_cases h4 : k = 2 ∧ a = 0
  · obtain ⟨rfl, rfl⟩ := h4
    match st with
    | [] => exact .inr (.inr (.inr (.inr ⟨rfl, .inr (.inl ⟨rfl, by simp⟩)⟩)))
    | [x] => exact .inr (.inr (.inr (.inr ⟨rfl, .inr (.inl ⟨rfl, by simp⟩)⟩)))
    | y :: x :: s => exact .inr (.inr (.inl ⟨y, x, s, rfl, rfl, rfl⟩))
  by_cases h5 : k = 3 ∧ a = 0
  · obtain ⟨rfl, rfl⟩ := h5
    match st with
    | [] => exact .inr (.inr (.inr (.inr ⟨rfl, .inr (.inr (.inl ⟨rfl, by simp⟩))⟩)))
    | [x] => exact .inr (.inr (.inr (.inr ⟨rfl, .inr (.inr (.inl ⟨rfl, by simp⟩))⟩)))
    | y :: x :: s => exact .inr (.inr (.inr (.inl ⟨y, x, s, rfl, rfl, rfl⟩)))
  · refine .inr (.inr (.inr (.inr ⟨?_, .inr (.inr (.inr ⟨h1, h2, h3, h4, h5⟩))⟩)))
    unfold stepM
    rw [if_neg (fun e => h1 (by injection e with e1 e2; exact ⟨e1, e2⟩)), if_neg (fun e => h2 (by injection e with e1 e2; exact ⟨e1, e2⟩)), if_neg (fun e => h3 (by injection e with e1 e2; exact ⟨e1, e2⟩)), if_neg (fun e => h4 (by injection e with e1 e2; exact ⟨e1, e2⟩)), if_neg (fun e => h5 (by injection e with e1 e2; exact ⟨e1, e2⟩))]

/-! appends of one part -/

def evC (T : Tm) : List Value := [.int .i64 ((evT T : Nat) : Int)]

def unC (T : Tm) : List Value := []

theorem evC_len (T : Tm) : (evC T).length = 1 := rfl

theorem phC_len (T : Tm) : (phC T).length = 2 := rfl

theorem unC_len (T : Tm) : (unC T).length = 0 := rfl

theorem Try_phinfo : (Tryd.prog.info? 72).map (fun i => (i.zero, i.size, i.bytes)) = some (some (.agg #[.string ⟨#[]⟩, .int .i64 0]), 2, 24) := by kernel_rfl

theorem Try_uninfo : (Tryd.prog.info? 78).map (fun i => (i.zero, i.size, i.bytes)) = some (some (.agg #[]), 0, 0) := by kernel_rfl

theorem run_app_ev (w : World) (base : Nat) (v : Value) (xs : List Tm) (L : Nat) (hL : xs.length = L) (T : Tm) (hown : GOwn 3 1 evC w base v xs) (h1 : L ≤ 1000000) (hb : base ≤ w.heap.size) :
    ∃ g c w', (Builtin.append_ #[68, 68] 68 #[v, .slice (some ⟨w.heap.size, 0, none⟩) 1 1]).run Tryd.prog (w.alloc (.cells #[.int .i64 ((evT T : Nat) : Int)] 3)) = .ok (.slice (some ⟨g, 0, none⟩) (L + 1) c) w' ∧ GOwn 3 1 evC w' base (.slice (some ⟨g, 0, none⟩) (L + 1) c) (xs ++ [T]) ∧ (w.alloc (.cells #[.int .i64 ((evT T : Nat) : Int)] 3)).grownBy w' v.ownBlock := by
  subst hL
  obtain ⟨i0, hi, hz0, hz1, hz2⟩ := info_parts Try_intinfo
  have hown2 := World.ownsRow.alloc (show w.ownsRow base 3 1 v xs.length (xs.flatMap evC) from hown) (.cells #[.int .i64 ((evT T : Nat) : Int)] 3)
  obtain ⟨v', w', k0, k1, k2, -, k4⟩ := run_append_own_at (P := Tryd.prog) (w.alloc (.cells #[.int .i64 ((evT T : Nat) : Int)] 3)) base 68 68 3 i0 (.int .i64 0) 1 8 Tryd.underlying68 hi hz0 hz1 hz2 rfl (by decide) v xs.length (xs.flatMap evC) hown2 ⟨w.heap.size, 0, none⟩ 1 1 [.int .i64 ((evT T : Nat) : Int)] rfl (World.news_of_block (heap_alloc_new w _)) (by intro u hu; simp only [List.mem_cons, List.not_mem_nil, or_false] at hu; subst hu; rfl) (by unfold maxLen; omega) (by omega) (by simp; omega)
  obtain ⟨g, c, hv, -⟩ : ∃ g c, v' = .slice (some ⟨g, 0, none⟩) (xs.length + 1) c ∧ True := by
    rcases k1.2 with ⟨-, hz⟩ | ⟨g, cap, cur, e, -⟩
    · omega
    · exact ⟨g, cap, e, trivial⟩
  subst hv
  refine ⟨g, c, w', k0, ?_, k2⟩
  unfold GOwn
  rw [List.length_append, List.flatMap_append]
  exact k1

theorem run_app_ph (w : World) (base : Nat) (v : Value) (xs : List Tm) (L : Nat) (hL : xs.length = L) (T : Tm) (hown : GOwn 72 2 phC w base v xs) (h1 : L ≤ 1000000) (hb : base ≤ w.heap.size) :
    ∃ g c w', (Builtin.append_ #[96, 96] 96 #[v, .slice (some ⟨w.heap.size, 0, none⟩) 1 1]).run Tryd.prog (w.alloc (.cells #[.string ⟨(txtT T).toArray⟩, .int .i64 (lastM T).1] 72)) = .ok (.slice (some ⟨g, 0, none⟩) (L + 1) c) w' ∧ GOwn 72 2 phC w' base (.slice (some ⟨g, 0, none⟩) (L + 1) c) (xs ++ [T]) ∧ (w.alloc (.cells #[.string ⟨(txtT T).toArray⟩, .int .i64 (lastM T).1] 72)).grownBy w' v.ownBlock := by
  subst hL
  obtain ⟨i0, hi, hz0, hz1, hz2⟩ := info_parts Try_phinfo
  have hown2 := World.ownsRow.alloc (show w.ownsRow base 72 2 v xs.length (xs.flatMap phC) from hown) (.cells #[.string ⟨(txtT T).toArray⟩, .int .i64 (lastM T).1] 72)
  obtain ⟨v', w', k0, k1, k2, -, k4⟩ := run_append_own_at (P := Tryd.prog) (w.alloc (.cells #[.string ⟨(txtT T).toArray⟩, .int .i64 (lastM T).1] 72)) base 96 96 72 i0 (.agg #[.string ⟨#[]⟩, .int .i64 0]) 2 24 Tryd.underlying96 hi hz0 hz1 hz2 rfl (by decide) v xs.length (xs.flatMap phC) hown2 ⟨w.heap.size, 0, none⟩ 1 1 (phC T) rfl (World.news_of_block (heap_alloc_new w _)) (by intro u hu; simp only [phC, List.mem_cons, List.not_mem_nil, or_false] at hu; rcases hu with rfl | rfl <;> rfl) (by unfold maxLen; omega) (by omega) (by simp; omega)
  obtain ⟨g, c, hv, -⟩ : ∃ g c, v' = .slice (some ⟨g, 0, none⟩) (xs.length + 1) c ∧ True := by
    rcases k1.2 with ⟨-, hz⟩ | ⟨g, cap, cur, e, -⟩
    · omega
    · exact ⟨g, cap, e, trivial⟩
  subst hv
  refine ⟨g, c, w', k0, ?_, k2⟩
  unfold GOwn
  rw [List.length_append, List.flatMap_append]
  simp only [List.flatMap_cons, List.flatMap_nil, List.append_nil]
  exact k1

theorem un_flat (xs : List Tm) : xs.flatMap unC = [] := by induction xs with | nil => rfl | cons x xs ih => simp [List.flatMap_cons, unC, ih]

theorem run_app_un (w : World) (base : Nat) (v : Value) (xs : List Tm) (L : Nat) (hL : xs.length = L) (T : Tm) (hown : GOwn 78 0 unC w base v xs) (h1 : L ≤ 1000000) (hb : base ≤ w.heap.size) :
    ∃ g c w', (Builtin.append_ #[81, 81] 81 #[v, .slice (some ⟨w.heap.size, 0, none⟩) 1 1]).run Tryd.prog (w.alloc (.cells #[] 78)) = .ok (.slice (some ⟨g, 0, none⟩) (L + 1) c) w' ∧ GOwn 78 0 unC w' base (.slice (some ⟨g, 0, none⟩) (L + 1) c) (xs ++ [T]) ∧ (w.alloc (.cells #[] 78)).grownBy w' v.ownBlock := by
  subst hL
  obtain ⟨i0, hi, hz0, hz1, hz2⟩ := info_parts Try_uninfo
  have hown2 := World.ownsRow.alloc (show w.ownsRow base 78 0 v xs.length (xs.flatMap unC) from hown) (.cells #[] 78)
  have hbase : base ≤ (w.alloc (.cells #[] 78)).heap.size := by simp; omega
  have hlen : ((xs ++ [T]).flatMap unC).length = (xs ++ [T]).length * 0 := by rw [un_flat]; rfl
  have grown : ∀ (L old : Nat) (wz : World) (cs : Array Value), xs.length + 1 = L → cs.size = 0 → base ≤ wz.heap.size → wz.grownBy (wz.drew.alloc (.cells cs 78)) v.ownBlock ∧
      GOwn 78 0 unC (wz.drew.alloc (.cells cs 78)) base (.slice (some ⟨wz.heap.size, 0, none⟩) L (grownCap wz L old 78)) (xs ++ [T]) := by
    intro L old wz cs hL hcs hbz
    subst hL
    refine ⟨⟨rfl, rfl, rfl, by simp, fun k hk _ => Below.heap_alloc wz.drew _ k hk⟩, ?_⟩
    refine ⟨hlen, .inr ⟨wz.heap.size, _, cs, by rw [List.length_append]; rfl, hbz, heap_alloc_new wz.drew _, ?_, grownCap_le_maxLen _ _ _ _ (by unfold maxLen; omega), ?_, ?_⟩⟩
    · rw [List.length_append]; exact grownCap_ge _ _ _ _
    · rw [hcs, Nat.mul_zero]
    · rw [un_flat, List.length_append, Nat.mul_zero, List.take_zero]
  rcases id hown2.2 with ⟨rfl, hn⟩ | ⟨g, cap, cur, rfl, hbg, hg, hnc, hcm, hcs, htake⟩
  · have hr := run_append_nil (P := Tryd.prog) (w.alloc (.cells #[] 78)) 81 81 78 i0 (.agg #[]) Tryd.underlying81 hi hz0 ⟨w.heap.size, 0, none⟩ 1 1 [] (by rw [hz1]; rfl) (by intro j u hj; cases hj) (by omega) (by omega) (by rw [hz2]; omega)
    rw [hn]
    exact ⟨_, _, _, hr, (grown (0 + 1) 0 (w.alloc (.cells #[] 78)) _ (by rw [hn]) (by simp [size_zeroCells, Value.cells]) hbase).2, (grown (0 + 1) 0 (w.alloc (.cells #[] 78)) _ (by rw [hn]) (by simp [size_zeroCells, Value.cells]) hbase).1⟩
  · by_cases hroom : xs.length + 1 ≤ cap
    · have hr := run_append_room (P := Tryd.prog) (w.alloc (.cells #[] 78)) 81 81 78 i0 Tryd.underlying81 hi g xs.length cap cur hg ⟨w.heap.size, 0, none⟩ 1 1 [] (by rw [hz1]; rfl) (by intro j u hj; cases hj) (by intro u hu; cases hu) hroom (by rw [hz1]; simp)
      refine ⟨_, _, _, hr, ⟨hlen, .inr ⟨g, cap, _, by rw [List.length_append]; rfl, hbg, setRow_heap _ g cur _ 78 _ hg, by rw [List.length_append]; exact hroom, hcm, ?_, ?_⟩⟩, ⟨rfl, rfl, rfl, by simp, fun k _ hk => setRow_other _ g k _ (fun e => hk (by simp [Value.ownBlock, e]))⟩⟩
      · rw [hz1]
        have : cur.size = 0 := by rw [hcs]; rfl
        simp [this]
      · rw [un_flat]; simp
    · have hr := run_append_grow (P := Tryd.prog) (w.alloc (.cells #[] 78)) 81 81 78 i0 (.agg #[]) Tryd.underlying81 hi hz0 ⟨g, 0, none⟩ xs.length cap [] (by rw [hz1]; rfl) (by intro j u hj; cases hj) ⟨w.heap.size, 0, none⟩ 1 1 [] (by rw [hz1]; rfl) (by intro j u hj; cases hj) (by omega) (by omega) (by rw [hz2]; omega)
      exact ⟨_, _, _, hr, (grown (xs.length + 1) cap (w.alloc (.cells #[] 78)) _ rfl (by simp [size_zeroCells, Value.cells]) hbase).2, (grown (xs.length + 1) cap (w.alloc (.cells #[] 78)) _ rfl (by simp [size_zeroCells, Value.cells]) hbase).1⟩

end Go.Proofs.YtfdlfgokoponmaaDoor
