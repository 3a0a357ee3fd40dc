/- The walk of the law of TakerGain. Conditions: rows of bytes that came in. (gen_jl.py) -/
import Derived.Test.YtodmgcbcacblbaaJk
namespace Go.Proofs.Ytodmgcbcacblbaa
open Go.RowKit
set_option linter.unusedVariables false

theorem wp_app13 {ops : Array Oper} {rest : List Oper} {o : Oper} {a : Act} {Q : Exit → Act → World → Prop} (hgd : o.guard = none) (s x : Operand)
    (ho : o.op = .call { callee := .builtin .append, args := #[s, x], argTypes := #[31, 31] }) (w : World) (base : Nat) (v : Value) (xs : List Int) (L : Nat) (hL : xs.length = L) (n : Int)
    (hs : a.eval s = v) (hown : IOwn w base v xs) (hx : a.eval x = .slice (some ⟨w.heap.size, 0, none⟩) 1 1)
    (h1 : L ≤ 1000000) (hb : base ≤ w.heap.size)
    (h : ∀ g c w', IOwn w' base (.slice (some ⟨g, 0, none⟩) (L + 1) c) (xs ++ [n]) → w.grownBy w' v.ownBlock → wpList Try.prog ops Q rest (a.put o.dst (.slice (some ⟨g, 0, none⟩) (L + 1) c)) w') :
    wpList Try.prog ops Q (o :: rest) a (w.alloc (.cells #[.int .i64 n] 3)) := by
  subst hL
  obtain ⟨i0, hi, hz0, hz1, hz2⟩ := info_parts Try_intinfo
  have hown2 : (w.alloc (.cells #[.int .i64 n] 3)).ownsRow base 3 1 v xs.length (xs.map (Value.int .i64)) := World.ownsRow.alloc hown _
  refine wpList_append_own_at _ hgd s x 31 ho base 3 i0 (.int .i64 0) 1 8 Try.underlying31 hi hz0 hz1 hz2 rfl (by decide) v xs.length (xs.map (Value.int .i64)) hs hown2 ⟨w.heap.size, 0, none⟩ 1 1 [.int .i64 n] hx rfl (one_new w _ _) one_int (by unfold maxLen; omega) (by omega) (by simp; omega) ?_
  intro v' w' k1 k2 k3 k4
  have hl : (xs ++ [n]).length = xs.length + 1 := by simp
  obtain ⟨g, c, hv, -⟩ : ∃ g c, v' = .slice (some ⟨g, 0, none⟩) (xs.length + 1) c ∧ True := by
    rcases k1.2 with ⟨-, hz⟩ | ⟨g, cap, cur, e, -⟩
    · omega
    · exact ⟨g, cap, e, trivial⟩
  subst hv
  refine h g c w' ?_ (grown_after (w := w) ((Below.refl _ w).alloc (Nat.le_refl _) _) k2)
  unfold IOwn
  rw [hl, List.map_append]
  exact k1

/-- the row so far: k of its places -/
def App13 (w : World) (zs : List Int) (k : Nat) (p : Value) (wr : World) : Prop := AppRel w zs k p wr ∧ ∃ g c, p = .slice (some ⟨g, 0, none⟩) k c

theorem app13_start (w : World) (zs : List Int) : App13 w zs 0 (.slice (some ⟨w.heap.size, 0, none⟩) 0 0) (w.alloc (.cells #[] 3)) := ⟨app_start w zs, _, _, rfl⟩

theorem App13.step {w wr w' : World} {zs : List Int} {k g c : Nat} {p : Value} {x : Int} (h : App13 w zs k p wr) (hx : zs[k]? = some x) (ho : IOwn w' w.heap.size (.slice (some ⟨g, 0, none⟩) (k + 1) c) (zs.take k ++ [x])) (hg : wr.grownBy w' p.ownBlock) :
    App13 w zs (k + 1) (.slice (some ⟨g, 0, none⟩) (k + 1) c) w' := ⟨h.1.step hx ho hg, _, _, rfl⟩

theorem App13.drew {w wr : World} {zs : List Int} {k : Nat} {p : Value} (h : App13 w zs k p wr) : App13 w zs k p wr.drew := ⟨h.1.keep (Below.refl _ _).drew, h.2⟩

theorem ird_form13 {w : World} {v : Value} {xs : List Int} {n : Nat} (h : IRd w v xs) (hn : xs.length = n) : ∃ A c, v = .slice A n c := by
  obtain ⟨A, c, e, -⟩ := h
  exact ⟨A, c, by rw [e, hn]⟩

/-- all signs exchanged -/
def negL (ss : List Int) : List Int := ss.map fun x => -x

theorem negL_len (ss : List Int) : (negL ss).length = ss.length := by simp [negL]

theorem negL_at {ss : List Int} {k : Nat} {s : Int} (h : ss[k]? = some s) : (negL ss)[k]? = some (-s) := by rw [negL, List.getElem?_map, h]; rfl

/-- the stakes without signs times Low less High -/
def difI : List Bt → List Int → Int
  | b :: bs, s :: ss => (s.natAbs : Int) * (b.2.1 - b.2.2) + difI bs ss
  | _, _ => 0

theorem difI_take {bs : List Bt} {ss : List Int} {k : Nat} {b : Bt} {s : Int} (hb : bs[k]? = some b) (hs : ss[k]? = some s) : difI (bs.take (k + 1)) (ss.take (k + 1)) = difI (bs.take k) (ss.take k) + (s.natAbs : Int) * (b.2.1 - b.2.2) := by
  induction bs generalizing ss k with
  | nil => simp at hb
  | cons b' bs ih =>
    cases ss with
    | nil => simp at hs
    | cons s' ss =>
      cases k with
      | zero => simp at hb hs; subst hb; subst hs; simp [difI]
      | succ k =>
        simp only [List.take_succ_cons, difI]
        rw [ih (by simpa using hb) (by simpa using hs)]
        omega

theorem difI_at {bs : List Bt} (hb : ∀ b ∈ bs, 0 ≤ b.2.1 ∧ b.2.1 ≤ b.2.2 ∧ b.2.2 ≤ 6) {s : Int} (hs : -9 ≤ s ∧ s ≤ 9) {b : Bt} (hm : b ∈ bs) : -54 ≤ (s.natAbs : Int) * (b.2.1 - b.2.2) ∧ (s.natAbs : Int) * (b.2.1 - b.2.2) ≤ 0 := by
  obtain ⟨h1, h2, h3⟩ := hb b hm
  obtain ⟨a, ha⟩ : ∃ a : Int, (s.natAbs : Int) = a := ⟨_, rfl⟩
  obtain ⟨y, hy⟩ : ∃ y : Int, b.2.1 - b.2.2 = y := ⟨_, rfl⟩
  rw [ha, hy]
  have ha9 : 0 ≤ a ∧ a ≤ 9 := by omega
  have hy6 : 0 ≤ -y ∧ -y ≤ 6 := by omega
  have h4 := Int.mul_nonneg ha9.1 hy6.1
  have h5 : a * -y ≤ 9 * 6 := Int.mul_le_mul ha9.2 hy6.2 hy6.1 (by omega)
  rw [Int.mul_neg] at h4 h5
  omega

theorem bet_both (b : Bt) (s : Int) (k : Nat) : gainI (b.1, tkP b s) s k + gainI (b.1, tkP b (-s)) (-s) k = (s.natAbs : Int) * (b.2.1 - b.2.2) := by
  show s * (bitI b.1 k * 6 - tkP b s) + -s * (bitI b.1 k * 6 - tkP b (-s)) = _
  obtain ⟨c, hc⟩ : ∃ c, bitI b.1 k * 6 = c := ⟨_, rfl⟩
  rw [hc]
  unfold tkP
  by_cases h : 0 < s
  · rw [if_pos h, if_neg (by omega), show (s.natAbs : Int) = s by omega]
    grind
  · by_cases h2 : 0 < -s
    · rw [if_neg h, if_pos h2, show (s.natAbs : Int) = -s by omega]
      grind
    · obtain rfl : s = 0 := by omega
      simp

theorem bal_both (bs : List Bt) (ss : List Int) (hl : ss.length = bs.length) (k : Nat) : balI (tkQ bs ss) ss k + balI (tkQ bs (negL ss)) (negL ss) k = difI bs ss := by
  induction bs generalizing ss with
  | nil => cases ss with
    | nil => rfl
    | cons s ss => simp at hl
  | cons b bs ih =>
    cases ss with
    | nil => simp at hl
    | cons s ss =>
      have h1 := ih ss (by simpa using hl)
      have h2 := bet_both b s k
      show gainI (b.1, tkP b s) s k + balI (tkQ bs ss) ss k + (gainI (b.1, tkP b (-s)) (-s) k + balI (tkQ bs (negL ss)) (negL ss) k) = (s.natAbs : Int) * (b.2.1 - b.2.2) + difI bs ss
      omega

theorem difI_all {bs : List Bt} {ss : List Int} (hb : ∀ b ∈ bs, 0 ≤ b.2.1 ∧ b.2.1 ≤ b.2.2 ∧ b.2.2 ≤ 6) (hs : ∀ s ∈ ss, -9 ≤ s ∧ s ≤ 9) : -54 * (bs.length : Int) ≤ difI bs ss ∧ difI bs ss ≤ 0 := by
  induction bs generalizing ss with
  | nil => cases ss <;> simp [difI]
  | cons b bs ih =>
    cases ss with
    | nil => simp only [difI, List.length_cons]; omega
    | cons s ss =>
      have h1 := ih (ss := ss) (fun c hc => hb c (by simp [hc])) (fun t ht => hs t (by simp [ht]))
      have h2 := difI_at hb (hs s (by simp)) (b := b) (by simp)
      simp only [difI, List.length_cons]
      omega

theorem taker_law {n : Int} {bs : List Bt} {ss : List Int} (h : tgB n bs ss = true) : tgB n bs (negL ss) = true ∧ sumB (tgL n bs ss) (tgL n bs (negL ss)) = true ∧ sumR (tgL n bs ss) (tgL n bs (negL ss)) = List.replicate n.toNat (difI bs ss) := by
  obtain ⟨h1, h2, h3⟩ := (tgB_iff _ _ _).1 h
  have h4 : tgB n bs (negL ss) = true := (tgB_iff _ _ _).2 ⟨h1, by rw [negL_len]; exact h2, fun s hs => by
    obtain ⟨t, ht, rfl⟩ := List.mem_map.1 hs
    have := h3 t ht
    omega⟩
  obtain ⟨⟨w1, w4⟩, hq3, hq⟩ := (bidsB_iff _ _).1 h1
  have hb := difI_all (bs := bs) (ss := ss) (fun b hb => by obtain ⟨k1, k2, k3⟩ := (bidB_iff _ _).1 (hq b hb); exact ⟨k2.1, k2.2, k3⟩) h3
  have e : sumL (tgL n bs ss) (tgL n bs (negL ss)) = (List.range n.toNat).map fun _ => difI bs ss := by
    rw [tgL, tgL, balL, balL, sumL_map]
    congr 1
    funext k
    exact bal_both bs ss h2 k
  have e2 : sumB (tgL n bs ss) (tgL n bs (negL ss)) = true := by
    rw [sumB, e, map_gok w1 w4 (fun k => by omega), Bool.and_true]
    exact (gok2_iff _ _).2 ⟨tg_gok h, tg_gok h4, by rw [tgL, tgL, balL_len, balL_len]⟩
  refine ⟨h4, e2, ?_⟩
  rw [sumR, if_pos e2, e, List.map_const', List.length_range]

set_option maxRecDepth 100000 in
set_option maxHeartbeats 8000000 in
theorem FnTakerGain_walk (a0 : Option Addr) (len0 cap0 : Nat) (z0 : List Int) (w : World) (w0 : IsRowC .u8 w a0 len0 cap0 z0) :
    Calls Try.prog 6 #[.slice a0 len0 cap0] w fun e w' => e = .returned (.bool true) ∧ Below w.heap.size w w' := by
  by_cases hlen : 1048576 < len0
  · clear w0
    go_enter Try.func6, Try.ntmps6
    go_wp2
    go_ret
    exact ⟨rfl, Below.refl _ _⟩
  · have hlen' : decide (1048576 < len0) = false := by simpa using hlen
    go_enter Try.func6, Try.ntmps6
    go_wp2_with fail
    refine (drawTakerGain_any _ _ _ _ _ w0).mono ?_
    rintro e w1 ⟨n, v, u, bs, ss, rfl, ⟨n1, n4⟩, ov, hl4, ou, hu8, B1⟩
    have HB1 := Lib.hid B1
    obtain ⟨A, c, rfl, hl, hmx⟩ := (ov.rd bC_len).form
    have HV : Hid (∀ wr, Below w1.heap.size w1 wr → BRd wr (.slice A bs.length c) bs) := Lib.hid (fun wr hb => (ov.rd bC_len).keep (SameAt.of_below hb))
    obtain ⟨A', c', rfl, hl', hmx', -⟩ := id ou.rd
    have HU : Hid (∀ wr, Below w1.heap.size w1 wr → IRd wr (.slice A' ss.length c') ss) := Lib.hid (fun wr hb => ou.rd.keep (SameAt.of_below hb))
    have C1 := Lib.hid (Below.refl w1.heap.size w1)
    clear ov ou B1 w0
    rcases Bool.eq_false_or_eq_true (tgB (n : Int) bs ss) with h | h
    · obtain ⟨t1, t2, t3⟩ := taker_law h
      obtain ⟨q1, q2, q3⟩ := (tgB_iff _ _ _).1 h
      obtain ⟨-, q4, q5⟩ := (bidsB_iff _ _).1 q1
      rw [Int.toNat_natCast] at t3
      obtain ⟨D, hD⟩ : ∃ D, difI bs ss = D := ⟨_, rfl⟩
      rw [hD] at t3
      have HDD := Lib.hid hD
      have HT := Lib.hid h
      have HT1 := Lib.hid t1
      have HT2 := Lib.hid t2
      have HT3 := Lib.hid t3
      have HGL : Hid ((tgL (n : Int) bs ss).length = n) := Lib.hid (by rw [tgL, balL_len, Int.toNat_natCast])
      have HSL : Hid ((List.replicate n D).length = n) := Lib.hid (by simp)
      have HQ : Hid (∀ b ∈ bs, 0 ≤ b.2.1 ∧ b.2.1 ≤ b.2.2 ∧ b.2.2 ≤ 6) := Lib.hid (fun b hb => by obtain ⟨k1, k2, k3⟩ := (bidB_iff _ _).1 (q5 b hb); exact ⟨k2.1, k2.2, k3⟩)
      have HS9 := Lib.hid q3
      have HLL := Lib.hid q2
      have hs3 : ss.length ≤ 3 := by omega
      clear h t1 t2 t3 q1 q2 q3 q4 q5 hD
      go_wp2_with fail
      refine (implTakerGain_any w1 (n : Int) _ _ bs ss (HV.out w1 C1.out) (HU.out w1 C1.out)).mono ?_
      rintro e w2 ⟨vx, rfl, ovx, b2⟩
      rw [tg_yes HT.out] at ovx
      rw [HT.out]
      have C2 := Lib.hid (below_step C1.out b2 C1.out.size)
      obtain ⟨Avx, cvx, rfl⟩ := ird_form13 ovx.rd HGL.out
      have Hvx := Lib.hid (fun wr (hb : Below w2.heap.size w2 wr) => ovx.rd.keep (SameAt.of_below hb))
      have D2 := Lib.hid (Below.refl w2.heap.size w2)
      clear ovx b2
      go_wp2_with fail
      refine (specTakerGain_any w2 (n : Int) _ _ bs ss (HV.out w2 C2.out) (HU.out w2 C2.out)).mono ?_
      rintro e w3 ⟨vs, rfl, ovs, b3⟩
      rw [tg_yes HT.out] at ovs
      rw [HT.out]
      have C3 := Lib.hid (below_step C2.out b3 C2.out.size)
      have D3 := Lib.hid (below_step D2.out b3 D2.out.size)
      obtain ⟨Avs, cvs, rfl⟩ := ird_form13 ovs.rd HGL.out
      have Hvs := Lib.hid (fun wr (hb : Below w3.heap.size w3 wr) => ovs.rd.keep (SameAt.of_below hb))
      clear ovs b3
      go_wp2_with fail
      refine (sameInts_any w3 _ _ _ _ (Hvx.out w3 D3.out) (Hvs.out w3 (Below.refl _ _))).mono ?_
      rintro e w4 ⟨q4, rfl, hw4⟩
      rw [decide_self]
      have S4 : Hid (Below w3.heap.size w3 w4) := Lib.hid (by rw [hw4]; exact below_drewN (Below.refl _ _) q4)
      have C4 := Lib.hid (below_step C3.out S4.out C3.out.size)
      have D4 := Lib.hid (below_step D3.out S4.out D3.out.size)
      clear hw4 S4 Hvs C3 D3
      have H0 : Hid (App13 w4 (negL ss) 0 (.slice (some ⟨w4.heap.size, 0, none⟩) 0 0) (w4.alloc (.cells #[] 3))) := Lib.hid (app13_start w4 _)
      go_wp2_with fail
      go_loopw [10, 11, 12] (fun p t i wr => ∃ (k : Nat) (d : Int), i = .int .i64 (k : Int) ∧ t = .int .i64 d ∧ k ≤ ss.length ∧ Hid (d = difI (bs.take k) (ss.take k) ∧ -54 * (k : Int) ≤ d ∧ d ≤ 0) ∧ Hid (App13 w4 (negL ss) k p wr)) (fun _ _ i _ => ss.length - (intOf i).toNat)
      case atStart => exact ⟨0, 0, rfl, rfl, Nat.zero_le _, Lib.hid ⟨rfl, by omega, by omega⟩, H0⟩
      case round =>
        obtain ⟨k, d, rfl, rfl, hk, HD, HF⟩ := hrel
        obtain ⟨g0, c0, rfl⟩ := HF.out.2
        clear H0
        have K4 := Lib.hid (below_step C4.out HF.out.1.2 C4.out.size)
        by_cases hlt : k < ss.length
        · have hlt' : (k : Int) < (ss.length : Int) := by omega
          have hk0 : (0 : Int) ≤ (k : Int) := by omega
          have hltb : k < bs.length := by have := HLL.out; omega
          have hltb' : (k : Int) < (bs.length : Int) := by omega
          obtain ⟨b, off, ⟨e, lo, hi⟩, rfl, hbb, hx, hc0, hc1, hc2⟩ := BRd.at_ (HV.out wr K4.out) hltb
          obtain ⟨G2, o2, s, rfl, -, hs, hcs⟩ := (HU.out wr K4.out).at_ hlt
          have s9 := HS9.out s (List.mem_of_getElem? hs)
          obtain ⟨l0, l1, l2⟩ : 0 ≤ lo ∧ lo ≤ hi ∧ hi ≤ 6 := HQ.out _ (List.mem_of_getElem? hx)
          have hz9 := difI_at HQ.out s9 (List.mem_of_getElem? hx)
          have hnx := difI_take hx hs
          have hz9 : -54 ≤ (s.natAbs : Int) * (lo - hi) ∧ (s.natAbs : Int) * (lo - hi) ≤ 0 := hz9
          have hnx : difI (bs.take (k + 1)) (ss.take (k + 1)) = difI (bs.take k) (ss.take k) + (s.natAbs : Int) * (lo - hi) := hnx
          obtain ⟨y, hy⟩ : ∃ y, lo - hi = y := ⟨_, rfl⟩
          rw [hy] at hz9 hnx
          obtain ⟨z, hz⟩ : ∃ z, (s.natAbs : Int) * y = z := ⟨_, rfl⟩
          rw [hz] at hz9 hnx
          obtain ⟨d2, hd2⟩ : ∃ d2, d + z = d2 := ⟨_, rfl⟩
          have HD2 : Hid (d2 = difI (bs.take (k + 1)) (ss.take (k + 1)) ∧ -54 * ((k + 1 : Nat) : Int) ≤ d2 ∧ d2 ≤ 0) := Lib.hid (by have := HD.out; refine ⟨by rw [hnx, ← this.1, hd2], by omega, by omega⟩)
          have hng : IntKind.i64.wrap (-s) = -s := IntWalk.i64_in _ (by omega)
          have hw2 : IntKind.i64.wrap (lo - hi) = y := by rw [hy]; exact IntWalk.i64_in _ (by omega)
          have hw4 : IntKind.i64.wrap (d + z) = d2 := by rw [hd2]; exact IntWalk.i64_in _ (by have := HD2.out; omega)
          have HX := Lib.hid hx
          have HS := Lib.hid hs
          have HAT := Lib.hid (negL_at hs)
          have hlk : Hid (((negL ss).take k).length = k) := Lib.hid (by rw [List.length_take, negL_len]; omega)
          clear hx hs hnx hd2 hy
          by_cases hp : 0 ≤ s
          · have hmx : max s (-s) = s := by omega
            have hgt : ¬ (s < -s) := by omega
            have hgt2 : -s ≤ s := by omega
            have hw3 : IntKind.i64.wrap (s * y) = z := by rw [show s * y = z by rw [← hz]; congr 1; omega]; exact IntWalk.i64_in _ (by omega)
            clear hz
            go_wp2_with (at_builtin; refine wp_app13 rfl _ _ rfl _ w4.heap.size _ _ k hlk.out (-s) (by rfl) HF.out.1.1 (by rfl) (by omega) HF.out.1.2.size ?_)
            intro g c2 w' hown' hgrow
            have HL := Lib.hid (HF.out.step HAT.out hown' hgrow)
            have K5 := Lib.hid (below_step C4.out HL.out.1.2 C4.out.size)
            clear hown' hgrow HF hcs hc0 hc1 hc2
            have hcs' := IRd.cellk (HU.out w' K5.out) HS.out
            obtain ⟨-, hc1', hc2'⟩ := BRd.cell13 (HV.out w' K5.out) HX.out
            have hc1' : w'.cell? ⟨b, off + k * 3 + 1, none⟩ = some (.int .i64 lo) := hc1'
            have hc2' : w'.cell? ⟨b, off + k * 3 + 2, none⟩ = some (.int .i64 hi) := hc2'
            go_wp2_with fail
            refine wp_region_held_drew (S := fun w' => w'.cell? ⟨G2, o2 + k, none⟩ = some (.int .i64 s) ∧ w'.cell? ⟨b, off + k * 3 + 1, none⟩ = some (.int .i64 lo) ∧ w'.cell? ⟨b, off + k * 3 + 2, none⟩ = some (.int .i64 hi)) (by kernel_rfl) ⟨hcs', hc1', hc2'⟩ (fun hHeld => ?_)
            refine take_in (i := 0) (v := ?_) rfl (by kernel_rfl) (fun _ _ _ h => h) rfl ?_ hHeld ?_
            rotate_left
            · intro w' hSw; go_simp; all_goals with_reducible rfl
            try simp only [Act.put, List.setIfInBounds_toArray, List.set_cons_zero, List.set_cons_succ]
            refine take_in (i := 1) (v := ?_) rfl (by kernel_rfl) (fun _ _ _ h => h) rfl ?_ hHeld ?_
            rotate_left
            · intro w' hSw; go_simp; all_goals with_reducible rfl
            try simp only [Act.put, List.setIfInBounds_toArray, List.set_cons_zero, List.set_cons_succ]
            refine take_in (i := 2) (v := ?_) rfl (by kernel_rfl) (fun _ _ _ h => h) rfl ?_ hHeld ?_
            rotate_left
            · intro w' hSw; go_simp; all_goals with_reducible rfl
            try simp only [Act.put, List.setIfInBounds_toArray, List.set_cons_zero, List.set_cons_succ]
            refine take_in (i := 3) (v := ?_) rfl (by kernel_rfl) (fun _ _ _ h => h) rfl ?_ hHeld ?_
            rotate_left
            · intro w' hSw; go_simp; all_goals with_reducible rfl
            try simp only [Act.put, List.setIfInBounds_toArray, List.set_cons_zero, List.set_cons_succ]
            refine take_in (i := 4) (v := ?_) rfl (by kernel_rfl) (fun _ _ _ h => h) rfl ?_ hHeld ?_
            rotate_left
            · intro w' hSw; obtain ⟨h1, h2, h3⟩ := hSw; go_simp; all_goals with_reducible rfl
            try simp only [Act.put, List.setIfInBounds_toArray, List.set_cons_zero, List.set_cons_succ]
            refine take_in (i := 5) (v := ?_) rfl (by kernel_rfl) (fun _ _ _ h => h) rfl ?_ hHeld ?_
            rotate_left
            · intro w' hSw; go_simp; all_goals with_reducible rfl
            try simp only [Act.put, List.setIfInBounds_toArray, List.set_cons_zero, List.set_cons_succ]
            refine take_in (i := 6) (v := ?_) rfl (by kernel_rfl) (fun _ _ _ h => h) rfl ?_ hHeld ?_
            rotate_left
            · intro w' hSw; go_simp; all_goals with_reducible rfl
            try simp only [Act.put, List.setIfInBounds_toArray, List.set_cons_zero, List.set_cons_succ]
            refine take_in (i := 7) (v := ?_) rfl (by kernel_rfl) (fun _ _ _ h => h) rfl ?_ hHeld ?_
            rotate_left
            · intro w' hSw; go_simp; all_goals with_reducible rfl
            try simp only [Act.put, List.setIfInBounds_toArray, List.set_cons_zero, List.set_cons_succ]
            refine take_in (i := 8) (v := ?_) rfl (by kernel_rfl) (fun _ _ _ h => h) rfl ?_ hHeld ?_
            rotate_left
            · intro w' hSw; obtain ⟨h1, h2, h3⟩ := hSw; go_simp; all_goals with_reducible rfl
            try simp only [Act.put, List.setIfInBounds_toArray, List.set_cons_zero, List.set_cons_succ]
            refine take_in (i := 9) (v := ?_) rfl (by kernel_rfl) (fun _ _ _ h => h) rfl ?_ hHeld ?_
            rotate_left
            · intro w' hSw; go_simp; all_goals with_reducible rfl
            try simp only [Act.put, List.setIfInBounds_toArray, List.set_cons_zero, List.set_cons_succ]
            refine take_in (i := 10) (v := ?_) rfl (by kernel_rfl) (fun _ _ _ h => h) rfl ?_ hHeld ?_
            rotate_left
            · intro w' hSw; go_simp; all_goals with_reducible rfl
            try simp only [Act.put, List.setIfInBounds_toArray, List.set_cons_zero, List.set_cons_succ]
            refine take_in (i := 11) (v := ?_) rfl (by kernel_rfl) (fun _ _ _ h => h) rfl ?_ hHeld ?_
            rotate_left
            · intro w' hSw; go_simp; all_goals with_reducible rfl
            try simp only [Act.put, List.setIfInBounds_toArray, List.set_cons_zero, List.set_cons_succ]
            refine take_in (i := 12) (v := ?_) rfl (by kernel_rfl) (fun _ _ _ h => h) rfl ?_ hHeld ?_
            rotate_left
            · intro w' hSw; go_simp; all_goals with_reducible rfl
            try simp only [Act.put, List.setIfInBounds_toArray, List.set_cons_zero, List.set_cons_succ]
            refine take_in (i := 13) (v := ?_) rfl (by kernel_rfl) (fun _ _ _ h => h) rfl ?_ hHeld ?_
            rotate_left
            · intro w' hSw; go_simp; all_goals with_reducible rfl
            try simp only [Act.put, List.setIfInBounds_toArray, List.set_cons_zero, List.set_cons_succ]
            refine take_in (i := 14) (v := ?_) rfl (by kernel_rfl) (fun _ _ _ h => h) rfl ?_ hHeld ?_
            rotate_left
            · intro w' hSw; go_simp; all_goals with_reducible rfl
            try simp only [Act.put, List.setIfInBounds_toArray, List.set_cons_zero, List.set_cons_succ]
            refine take_in (i := 15) (v := ?_) rfl (by kernel_rfl) (fun _ _ _ h => h) rfl ?_ hHeld ?_
            rotate_left
            · intro w' hSw; obtain ⟨h1, h2, h3⟩ := hSw; go_simp; all_goals with_reducible rfl
            try simp only [Act.put, List.setIfInBounds_toArray, List.set_cons_zero, List.set_cons_succ]
            refine take_in (i := 16) (v := ?_) rfl (by kernel_rfl) (fun _ _ _ h => h) rfl ?_ hHeld ?_
            rotate_left
            · intro w' hSw; go_simp; all_goals with_reducible rfl
            try simp only [Act.put, List.setIfInBounds_toArray, List.set_cons_zero, List.set_cons_succ]
            refine take_in (i := 17) (v := ?_) rfl (by kernel_rfl) (fun _ _ _ h => h) rfl ?_ hHeld ?_
            rotate_left
            · intro w' hSw; go_simp; all_goals with_reducible rfl
            try simp only [Act.put, List.setIfInBounds_toArray, List.set_cons_zero, List.set_cons_succ]
            refine take_in (i := 18) (v := ?_) rfl (by kernel_rfl) (fun _ _ _ h => h) rfl ?_ hHeld ?_
            rotate_left
            · intro w' hSw; go_simp; all_goals with_reducible rfl
            try simp only [Act.put, List.setIfInBounds_toArray, List.set_cons_zero, List.set_cons_succ]
            refine take_in (i := 19) (v := ?_) rfl (by kernel_rfl) (fun _ _ _ h => h) rfl ?_ hHeld ?_
            rotate_left
            · intro w' hSw; go_simp; all_goals with_reducible rfl
            try simp only [Act.put, List.setIfInBounds_toArray, List.set_cons_zero, List.set_cons_succ]
            refine take_in (i := 20) (v := ?_) rfl (by kernel_rfl) (fun _ _ _ h => h) rfl ?_ hHeld ?_
            rotate_left
            · intro w' hSw; obtain ⟨h1, h2, h3⟩ := hSw; go_simp; all_goals with_reducible rfl
            try simp only [Act.put, List.setIfInBounds_toArray, List.set_cons_zero, List.set_cons_succ]
            refine take_in (i := 21) (v := ?_) rfl (by kernel_rfl) (fun _ _ _ h => h) rfl ?_ hHeld ?_
            rotate_left
            · intro w' hSw; go_simp; all_goals with_reducible rfl
            try simp only [Act.put, List.setIfInBounds_toArray, List.set_cons_zero, List.set_cons_succ]
            refine take_in (i := 22) (v := ?_) rfl (by kernel_rfl) (fun _ _ _ h => h) rfl ?_ hHeld ?_
            rotate_left
            · intro w' hSw; go_simp; all_goals with_reducible rfl
            try simp only [Act.put, List.setIfInBounds_toArray, List.set_cons_zero, List.set_cons_succ]
            refine take_in (i := 23) (v := ?_) rfl (by kernel_rfl) (fun _ _ _ h => h) rfl ?_ hHeld ?_
            rotate_left
            · intro w' hSw; go_simp; all_goals with_reducible rfl
            try simp only [Act.put, List.setIfInBounds_toArray, List.set_cons_zero, List.set_cons_succ]
            refine take_in (i := 24) (v := ?_) rfl (by kernel_rfl) (fun _ _ _ h => h) rfl ?_ hHeld ?_
            rotate_left
            · intro w' hSw; go_simp; all_goals with_reducible rfl
            try simp only [Act.put, List.setIfInBounds_toArray, List.set_cons_zero, List.set_cons_succ]
            refine wpAnyH_done (by kernel_rfl) ?_ _
            clear hcs' hc1' hc2'
            go_wp2_with fail
            go_roundw
            case rel => exact ⟨k + 1, d2, by go_num, by first | rfl | rw [if_neg (show ¬ s < -s by omega), hw3, hw4], by omega, HD2, Lib.hid HL.out.drew⟩
            case measure => simp [intOf]; omega
          · have hmx : max s (-s) = -s := by omega
            have hgt2 : ¬ (-s ≤ s) := by omega
            have hgt : s < -s := by omega
            have hw3 : IntKind.i64.wrap (-s * y) = z := by rw [show -s * y = z by rw [← hz]; congr 1; omega]; exact IntWalk.i64_in _ (by omega)
            clear hz
            go_wp2_with (at_builtin; refine wp_app13 rfl _ _ rfl _ w4.heap.size _ _ k hlk.out (-s) (by rfl) HF.out.1.1 (by rfl) (by omega) HF.out.1.2.size ?_)
            intro g c2 w' hown' hgrow
            have HL := Lib.hid (HF.out.step HAT.out hown' hgrow)
            have K5 := Lib.hid (below_step C4.out HL.out.1.2 C4.out.size)
            clear hown' hgrow HF hcs hc0 hc1 hc2
            have hcs' := IRd.cellk (HU.out w' K5.out) HS.out
            obtain ⟨-, hc1', hc2'⟩ := BRd.cell13 (HV.out w' K5.out) HX.out
            have hc1' : w'.cell? ⟨b, off + k * 3 + 1, none⟩ = some (.int .i64 lo) := hc1'
            have hc2' : w'.cell? ⟨b, off + k * 3 + 2, none⟩ = some (.int .i64 hi) := hc2'
            go_wp2_with fail
            refine wp_region_held_drew (S := fun w' => w'.cell? ⟨G2, o2 + k, none⟩ = some (.int .i64 s) ∧ w'.cell? ⟨b, off + k * 3 + 1, none⟩ = some (.int .i64 lo) ∧ w'.cell? ⟨b, off + k * 3 + 2, none⟩ = some (.int .i64 hi)) (by kernel_rfl) ⟨hcs', hc1', hc2'⟩ (fun hHeld => ?_)
            refine take_in (i := 0) (v := ?_) rfl (by kernel_rfl) (fun _ _ _ h => h) rfl ?_ hHeld ?_
            rotate_left
            · intro w' hSw; go_simp; all_goals with_reducible rfl
            try simp only [Act.put, List.setIfInBounds_toArray, List.set_cons_zero, List.set_cons_succ]
            refine take_in (i := 1) (v := ?_) rfl (by kernel_rfl) (fun _ _ _ h => h) rfl ?_ hHeld ?_
            rotate_left
            · intro w' hSw; go_simp; all_goals with_reducible rfl
            try simp only [Act.put, List.setIfInBounds_toArray, List.set_cons_zero, List.set_cons_succ]
            refine take_in (i := 2) (v := ?_) rfl (by kernel_rfl) (fun _ _ _ h => h) rfl ?_ hHeld ?_
            rotate_left
            · intro w' hSw; go_simp; all_goals with_reducible rfl
            try simp only [Act.put, List.setIfInBounds_toArray, List.set_cons_zero, List.set_cons_succ]
            refine take_in (i := 3) (v := ?_) rfl (by kernel_rfl) (fun _ _ _ h => h) rfl ?_ hHeld ?_
            rotate_left
            · intro w' hSw; go_simp; all_goals with_reducible rfl
            try simp only [Act.put, List.setIfInBounds_toArray, List.set_cons_zero, List.set_cons_succ]
            refine take_in (i := 4) (v := ?_) rfl (by kernel_rfl) (fun _ _ _ h => h) rfl ?_ hHeld ?_
            rotate_left
            · intro w' hSw; obtain ⟨h1, h2, h3⟩ := hSw; go_simp; all_goals with_reducible rfl
            try simp only [Act.put, List.setIfInBounds_toArray, List.set_cons_zero, List.set_cons_succ]
            refine take_in (i := 5) (v := ?_) rfl (by kernel_rfl) (fun _ _ _ h => h) rfl ?_ hHeld ?_
            rotate_left
            · intro w' hSw; go_simp; all_goals with_reducible rfl
            try simp only [Act.put, List.setIfInBounds_toArray, List.set_cons_zero, List.set_cons_succ]
            refine take_in (i := 6) (v := ?_) rfl (by kernel_rfl) (fun _ _ _ h => h) rfl ?_ hHeld ?_
            rotate_left
            · intro w' hSw; go_simp; all_goals with_reducible rfl
            try simp only [Act.put, List.setIfInBounds_toArray, List.set_cons_zero, List.set_cons_succ]
            refine take_in (i := 7) (v := ?_) rfl (by kernel_rfl) (fun _ _ _ h => h) rfl ?_ hHeld ?_
            rotate_left
            · intro w' hSw; go_simp; all_goals with_reducible rfl
            try simp only [Act.put, List.setIfInBounds_toArray, List.set_cons_zero, List.set_cons_succ]
            refine take_in (i := 8) (v := ?_) rfl (by kernel_rfl) (fun _ _ _ h => h) rfl ?_ hHeld ?_
            rotate_left
            · intro w' hSw; obtain ⟨h1, h2, h3⟩ := hSw; go_simp; all_goals with_reducible rfl
            try simp only [Act.put, List.setIfInBounds_toArray, List.set_cons_zero, List.set_cons_succ]
            refine take_in (i := 9) (v := ?_) rfl (by kernel_rfl) (fun _ _ _ h => h) rfl ?_ hHeld ?_
            rotate_left
            · intro w' hSw; go_simp; all_goals with_reducible rfl
            try simp only [Act.put, List.setIfInBounds_toArray, List.set_cons_zero, List.set_cons_succ]
            refine take_in (i := 10) (v := ?_) rfl (by kernel_rfl) (fun _ _ _ h => h) rfl ?_ hHeld ?_
            rotate_left
            · intro w' hSw; go_simp; all_goals with_reducible rfl
            try simp only [Act.put, List.setIfInBounds_toArray, List.set_cons_zero, List.set_cons_succ]
            refine take_in (i := 11) (v := ?_) rfl (by kernel_rfl) (fun _ _ _ h => h) rfl ?_ hHeld ?_
            rotate_left
            · intro w' hSw; go_simp; all_goals with_reducible rfl
            try simp only [Act.put, List.setIfInBounds_toArray, List.set_cons_zero, List.set_cons_succ]
            refine take_in (i := 12) (v := ?_) rfl (by kernel_rfl) (fun _ _ _ h => h) rfl ?_ hHeld ?_
            rotate_left
            · intro w' hSw; go_simp; all_goals with_reducible rfl
            try simp only [Act.put, List.setIfInBounds_toArray, List.set_cons_zero, List.set_cons_succ]
            refine take_in (i := 13) (v := ?_) rfl (by kernel_rfl) (fun _ _ _ h => h) rfl ?_ hHeld ?_
            rotate_left
            · intro w' hSw; go_simp; all_goals with_reducible rfl
            try simp only [Act.put, List.setIfInBounds_toArray, List.set_cons_zero, List.set_cons_succ]
            refine take_in (i := 14) (v := ?_) rfl (by kernel_rfl) (fun _ _ _ h => h) rfl ?_ hHeld ?_
            rotate_left
            · intro w' hSw; go_simp; all_goals with_reducible rfl
            try simp only [Act.put, List.setIfInBounds_toArray, List.set_cons_zero, List.set_cons_succ]
            refine take_in (i := 15) (v := ?_) rfl (by kernel_rfl) (fun _ _ _ h => h) rfl ?_ hHeld ?_
            rotate_left
            · intro w' hSw; obtain ⟨h1, h2, h3⟩ := hSw; go_simp; all_goals with_reducible rfl
            try simp only [Act.put, List.setIfInBounds_toArray, List.set_cons_zero, List.set_cons_succ]
            refine take_in (i := 16) (v := ?_) rfl (by kernel_rfl) (fun _ _ _ h => h) rfl ?_ hHeld ?_
            rotate_left
            · intro w' hSw; go_simp; all_goals with_reducible rfl
            try simp only [Act.put, List.setIfInBounds_toArray, List.set_cons_zero, List.set_cons_succ]
            refine take_in (i := 17) (v := ?_) rfl (by kernel_rfl) (fun _ _ _ h => h) rfl ?_ hHeld ?_
            rotate_left
            · intro w' hSw; go_simp; all_goals with_reducible rfl
            try simp only [Act.put, List.setIfInBounds_toArray, List.set_cons_zero, List.set_cons_succ]
            refine take_in (i := 18) (v := ?_) rfl (by kernel_rfl) (fun _ _ _ h => h) rfl ?_ hHeld ?_
            rotate_left
            · intro w' hSw; go_simp; all_goals with_reducible rfl
            try simp only [Act.put, List.setIfInBounds_toArray, List.set_cons_zero, List.set_cons_succ]
            refine take_in (i := 19) (v := ?_) rfl (by kernel_rfl) (fun _ _ _ h => h) rfl ?_ hHeld ?_
            rotate_left
            · intro w' hSw; go_simp; all_goals with_reducible rfl
            try simp only [Act.put, List.setIfInBounds_toArray, List.set_cons_zero, List.set_cons_succ]
            refine take_in (i := 20) (v := ?_) rfl (by kernel_rfl) (fun _ _ _ h => h) rfl ?_ hHeld ?_
            rotate_left
            · intro w' hSw; obtain ⟨h1, h2, h3⟩ := hSw; go_simp; all_goals with_reducible rfl
            try simp only [Act.put, List.setIfInBounds_toArray, List.set_cons_zero, List.set_cons_succ]
            refine take_in (i := 21) (v := ?_) rfl (by kernel_rfl) (fun _ _ _ h => h) rfl ?_ hHeld ?_
            rotate_left
            · intro w' hSw; go_simp; all_goals with_reducible rfl
            try simp only [Act.put, List.setIfInBounds_toArray, List.set_cons_zero, List.set_cons_succ]
            refine take_in (i := 22) (v := ?_) rfl (by kernel_rfl) (fun _ _ _ h => h) rfl ?_ hHeld ?_
            rotate_left
            · intro w' hSw; go_simp; all_goals with_reducible rfl
            try simp only [Act.put, List.setIfInBounds_toArray, List.set_cons_zero, List.set_cons_succ]
            refine take_in (i := 23) (v := ?_) rfl (by kernel_rfl) (fun _ _ _ h => h) rfl ?_ hHeld ?_
            rotate_left
            · intro w' hSw; go_simp; all_goals with_reducible rfl
            try simp only [Act.put, List.setIfInBounds_toArray, List.set_cons_zero, List.set_cons_succ]
            refine take_in (i := 24) (v := ?_) rfl (by kernel_rfl) (fun _ _ _ h => h) rfl ?_ hHeld ?_
            rotate_left
            · intro w' hSw; go_simp; all_goals with_reducible rfl
            try simp only [Act.put, List.setIfInBounds_toArray, List.set_cons_zero, List.set_cons_succ]
            refine wpAnyH_done (by kernel_rfl) ?_ _
            clear hcs' hc1' hc2'
            go_wp2_with fail
            go_roundw
            case rel => exact ⟨k + 1, d2, by go_num, by first | rfl | rw [if_neg (show ¬ s < -s by omega), hw3, hw4], by omega, HD2, Lib.hid HL.out.drew⟩
            case measure => simp [intOf]; omega
        · obtain rfl : k = ss.length := by omega
          have hlt' : (ss.length : Int) ≤ (ss.length : Int) := Int.le_refl _
          have hdD : d = D := by
            have h1 := HD.out.1
            rw [List.take_length, show ss.length = bs.length from HLL.out, List.take_length, HDD.out] at h1
            exact h1
          subst hdD
          obtain ⟨o1, b1⟩ := HF.out.1.all (by rw [negL_len]; exact Nat.le_refl _)
          have O5 := Lib.hid o1.rd
          have C5 := Lib.hid (below_step C4.out b1 C4.out.size)
          have D5 := Lib.hid (below_step D4.out b1 D4.out.size)
          generalize wr = w5 at *
          clear o1 b1 HF K4
          go_wp2_with fail
          refine (implTakerGain_any w5 (n : Int) _ _ bs (negL ss) (HV.out w5 C5.out) O5.out).mono ?_
          rintro e w6 ⟨vr, rfl, ovr, b6⟩
          rw [tg_yes HT1.out] at ovr
          rw [HT1.out]
          have C6 := Lib.hid (below_step C5.out b6 C5.out.size)
          have D6 := Lib.hid (below_step D5.out b6 D5.out.size)
          have Ovr := Lib.hid ovr.rd
          clear ovr b6
          go_wp2_with fail
          refine (implSumGamble_any w6 _ _ _ _ (Hvx.out w6 D6.out) Ovr.out).mono ?_
          rintro e w7 ⟨vb, rfl, ovb, b7⟩
          rw [HT3.out] at ovb
          rw [HT2.out]
          have C7 := Lib.hid (below_step C6.out b7 C6.out.size)
          obtain ⟨Avb, cvb, rfl⟩ := ird_form13 ovb.rd HSL.out
          have Hvb : Hid (∀ wr, Below w7.heap.size w7 wr → IRd wr (.slice Avb n cvb) (List.replicate n d)) := Lib.hid (fun wr hb => ovb.rd.keep (SameAt.of_below hb))
          clear ovb b7
          go_wp2_with fail
          go_loopw [17] (fun i wr => ∃ k : Nat, i = .int .i64 (k : Int) ∧ k ≤ n ∧ Hid (Below w7.heap.size w7 wr)) (fun i _ => n - (intOf i).toNat)
          case atStart => exact ⟨0, rfl, Nat.zero_le _, Lib.hid (Below.refl _ _)⟩
          case round =>
            obtain ⟨k, rfl, hk, HR⟩ := hrel
            by_cases hkn : k < n
            · have hkn' : (k : Int) < (n : Int) := by omega
              obtain ⟨G3, o3, x, rfl, -, hx, hcx⟩ := (Hvb.out wr HR.out).at_ (k := k) hkn
              obtain rfl : x = d := by rw [List.getElem?_replicate, if_pos hkn] at hx; exact (Option.some.inj hx).symm
              have hne : (x != x) = false := by simp
              go_wp2_with fail
              go_roundw
              case rel => exact ⟨k + 1, by go_num, by omega, HR⟩
              case measure => simp [intOf]; omega
            · obtain rfl : k = n := by omega
              have hnn : ((k : Int) == (k : Int)) = true := by simp
              have C8 := Lib.hid (below_step C7.out HR.out C7.out.size)
              go_wp2_with fail
              go_ret
              exact ⟨rfl, below_step HB1.out C8.out HB1.out.size⟩
    · have HT := Lib.hid h
      have HR0 : Hid (tgR (n : Int) bs ss = []) := Lib.hid (tg_no h)
      clear h
      go_wp2_with fail
      refine (implTakerGain_any w1 (n : Int) _ _ bs ss (HV.out w1 C1.out) (HU.out w1 C1.out)).mono ?_
      rintro e w2 ⟨vx, rfl, ovx, b2⟩
      rw [HR0.out] at ovx
      rw [HT.out]
      have C2 := Lib.hid (below_step C1.out b2 C1.out.size)
      obtain ⟨Avx, cvx, rfl⟩ := ird_form13 (n := 0) ovx.rd rfl
      have Hvx := Lib.hid (fun wr (hb : Below w2.heap.size w2 wr) => ovx.rd.keep (SameAt.of_below hb))
      have D2 := Lib.hid (Below.refl w2.heap.size w2)
      clear ovx b2
      go_wp2_with fail
      refine (specTakerGain_any w2 (n : Int) _ _ bs ss (HV.out w2 C2.out) (HU.out w2 C2.out)).mono ?_
      rintro e w3 ⟨vs, rfl, ovs, b3⟩
      rw [HR0.out] at ovs
      rw [HT.out]
      have C3 := Lib.hid (below_step C2.out b3 C2.out.size)
      have D3 := Lib.hid (below_step D2.out b3 D2.out.size)
      obtain ⟨Avs, cvs, rfl⟩ := ird_form13 (n := 0) ovs.rd rfl
      have Hvs := Lib.hid (fun wr (hb : Below w3.heap.size w3 wr) => ovs.rd.keep (SameAt.of_below hb))
      clear ovs b3
      go_wp2_with fail
      refine (sameInts_any w3 _ _ _ _ (Hvx.out w3 D3.out) (Hvs.out w3 (Below.refl _ _))).mono ?_
      rintro e w4 ⟨q4, rfl, hw4⟩
      rw [decide_self]
      have S4 : Hid (Below w3.heap.size w3 w4) := Lib.hid (by rw [hw4]; exact below_drewN (Below.refl _ _) q4)
      have C4 := Lib.hid (below_step C3.out S4.out C3.out.size)
      clear hw4 S4 Hvs C3 D3 Hvx
      go_wp2_with fail
      refine (alive_any _).mono ?_
      rintro e w' ⟨rfl, rfl⟩
      go_wp2_with fail
      go_ret
      exact ⟨rfl, below_step HB1.out C4.out HB1.out.size⟩

end Go.Proofs.Ytodmgcbcacblbaa
