/- Contracts of MixedMeasure: the program's. Conditions: rows that read as lists. -/
import Derived.Test.YtfdgelikmhaagaaMh
namespace Go.Proofs.Ytfdgelikmhaagaa
open Go.RowKit
set_option linter.unusedVariables false

/-- the sums, up to place k halved -/
def halfTo (s z : List Int) (k : Nat) : List Int := z.take k ++ s.drop k

theorem half_set {s z : List Int} {k : Nat} {x : Int} (hz : z[k]? = some x) (hl : s.length = z.length) : (halfTo s z k).set k x = halfTo s z (k + 1) := by
  have hk : k < z.length := (List.getElem?_eq_some_iff.1 hz).1
  have h1 : (z.take k).length = k := by simp; omega
  unfold halfTo
  rw [List.set_append_right _ _ (by omega), h1, Nat.sub_self, List.take_add_one, hz, List.drop_eq_getElem_cons (l := s) (i := k) (by omega), List.set_cons_zero, List.append_assoc]
  rfl

theorem half_at {s z : List Int} {k : Nat} {x : Int} (hs : s[k]? = some x) (hl : s.length = z.length) : (halfTo s z k)[k]? = some x := by
  have hk : k < s.length := (List.getElem?_eq_some_iff.1 hs).1
  have h1 : (z.take k).length = k := by simp; omega
  unfold halfTo
  rw [List.getElem?_append_right (by omega), h1, Nat.sub_self, List.getElem?_drop]
  simpa using hs

theorem half_len {s z : List Int} (k : Nat) (hk : k ≤ z.length) (hl : s.length = z.length) : (halfTo s z k).length = z.length := by
  unfold halfTo; simp; omega

/-- the row of sums, up to place k halved -/
def HalfRel (w : World) (s z : List Int) (v : Value) (k : Nat) (wr : World) : Prop := IOwn wr w.heap.size v (halfTo s z k) ∧ Below w.heap.size w wr

theorem HalfRel.store {w wr : World} {s z : List Int} {g n cap k : Nat} {x : Int} (h : HalfRel w s z (.slice (some ⟨g, 0, none⟩) n cap) k wr) (hz : z[k]? = some x) (hl : s.length = z.length) (hn : z.length = n) :
    HalfRel w s z (.slice (some ⟨g, 0, none⟩) n cap) (k + 1) (wr.setCell ⟨g, k, none⟩ (.int .i64 x)) := by
  have hk : k < z.length := (List.getElem?_eq_some_iff.1 hz).1
  obtain ⟨o, hb⟩ := h
  have hge := (o.ge g rfl).1
  have hlen := half_len (s := s) (z := z) k (by omega) hl
  unfold IOwn at o
  rw [hlen, hn] at o
  obtain ⟨h3, h4⟩ := o.stored k (.int .i64 x)
  refine ⟨?_, hb.setCell (p := ⟨g, k, none⟩) hge _⟩
  unfold IOwn
  rw [← half_set hz hl, List.length_set, hlen, hn, List.map_set]
  exact h3

theorem HalfRel.read {w wr : World} {s z : List Int} {g n cap k : Nat} {x : Int} (h : HalfRel w s z (.slice (some ⟨g, 0, none⟩) n cap) k wr) (hs : s[k]? = some x) (hl : s.length = z.length) (hn : z.length = n) :
    wr.cell? ⟨g, k, none⟩ = some (.int .i64 x) ∧ wr.frozen? ⟨g, k, none⟩ = false := by
  have hk : k < s.length := (List.getElem?_eq_some_iff.1 hs).1
  have hlen := half_len (s := s) (z := z) k (by omega) hl
  have h1 := IRd.cellk h.1.rd (half_at hs hl)
  rw [Nat.zero_add] at h1
  refine ⟨h1, ?_⟩
  have o := h.1
  unfold IOwn at o
  rw [hlen, hn] at o
  exact o.frozenAt k

theorem HalfRel.all {w wr : World} {s z : List Int} {v : Value} {k : Nat} (h : HalfRel w s z v k wr) (hl : s.length = z.length) (hk : z.length ≤ k) : IOwn wr w.heap.size v z ∧ Below w.heap.size w wr := by
  have : halfTo s z k = z := by unfold halfTo; rw [List.take_of_length_le hk, List.drop_eq_nil_of_le (by omega), List.append_nil]
  rw [← this]; exact h

theorem small3_mea {xs : List Int} (h : meaB xs = true) : Small3 xs := ⟨(grs_of h).2, fun k x hx => by have := (grs_of h).1 x (List.mem_of_getElem? hx); omega⟩

set_option maxHeartbeats 8000000 in
theorem implMixedMeasure_any (w : World) (v u : Value) (a b : List Int) (hv : IRd w v a) (hu : IRd w u b) :
    Calls Try.prog 52 #[v, u] w (RowOk w.heap.size (mixR a b) (mixB a b) w) := by
  obtain ⟨A, c, rfl, hl, hm, -⟩ := id hv
  obtain ⟨A', c', rfl, hl', hm', -⟩ := id hu
  have HV := Lib.hid hv
  have HU := Lib.hid hu
  clear hv hu
  rcases Bool.eq_false_or_eq_true (meaB a) with h1 | h1
  · rcases Bool.eq_false_or_eq_true (meaB b) with h2 | h2
    · by_cases hlen : a.length = b.length
      · have HI := Lib.hid (mix_is h1 h2 hlen)
        have HX := Lib.hid (grs_of h1)
        have HY := Lib.hid (grs_of h2)
        have HS1 := Lib.hid (small3_mea h1)
        have HS2 := Lib.hid (small3_mea h2)
        have hpos : 0 < a.length := ((meaB_iff a).1 h1).2.1
        have HZ := Lib.hid (mixL_len a b hlen)
        have HSL := Lib.hid (sumL_len a b hlen)
        have hs1 : ((a.length : Int) == (b.length : Int)) = true := by simp; omega
        have hs2 : ((a.length : Int) != (b.length : Int)) = false := by simp; omega
        have HL := Lib.hid hlen
        clear hlen
        go_enter Try.func52, Try.ntmps52
        go_wp2_with fail
        refine (implMeasureOk_any _ _ _ HV.out).mono ?_
        rintro e w' ⟨rfl, rfl⟩
        rw [h1]
        go_wp2_with fail
        refine (implMeasureOk_any _ _ _ HU.out).mono ?_
        rintro e w' ⟨rfl, rfl⟩
        rw [h2]
        clear h1 h2
        go_wp2_with fail
        clear hs1 hs2
        refine (addRows_any _ _ _ _ _ HV.out HU.out HL.out HS1.out HS2.out).mono ?_
        rintro e w1 ⟨v1, rfl, o1, b1⟩
        obtain ⟨g, cap, rfl, hc1, hc2⟩ := o1.form (by rw [HSL.out]; exact hpos)
        rw [HSL.out] at hc1 o1 ⊢
        have hc3 : (a.length : Int) ≤ (cap : Int) := by omega
        have H0 : Hid (HalfRel w (sumL a b) (mixL a b) (.slice (some ⟨g, 0, none⟩) a.length cap) 0 w1) := Lib.hid ⟨by simpa [halfTo] using o1, b1⟩
        clear o1 b1
        go_wp2_with fail
        go_loopw [29] (fun i wr => ∃ k : Nat, i = .int .i64 k ∧ k ≤ a.length ∧ Hid (HalfRel w (sumL a b) (mixL a b) (.slice (some ⟨g, 0, none⟩) a.length cap) k wr) ∧ Hid (EvTo a b k)) (fun i _ => a.length - (intOf i).toNat)
        case atStart => exact ⟨0, rfl, Nat.zero_le _, H0, Lib.hid (fun j _ _ hj => absurd hj (Nat.not_lt_zero _))⟩
        case round =>
          obtain ⟨k, rfl, hk, HF, HE⟩ := hrel
          clear H0
          by_cases hlt : k < a.length
          · have hlt' : k < b.length := by have := HL.out; omega
            obtain ⟨x, hx⟩ := getD_some hlt
            obtain ⟨y, hy⟩ := getD_some hlt'
            obtain ⟨hx1, hx2⟩ := HX.out.1 x (List.mem_of_getElem? hx)
            obtain ⟨hy1, hy2⟩ := HY.out.1 y (List.mem_of_getElem? hy)
            obtain ⟨hck, hfk⟩ := HF.out.read (sumL_at a b hx hy) (by rw [HSL.out, HZ.out]) HZ.out
            have HST := Lib.hid (HF.out.store (mixL_at a b hx hy) (by rw [HSL.out, HZ.out]) HZ.out)
            obtain ⟨q1, q2, q3, q4⟩ := half_facts ⟨hx1, hx2⟩ ⟨hy1, hy2⟩
            by_cases hev : (x + y) % 2 = 0
            · have HE2 := Lib.hid (HE.out.step hx hy hev)
              have q1' : (x + y).tmod 2 = 0 := by rw [q1]; exact hev
              clear hx hy hev q1
              go_wp2_with fail
              go_roundw
              case rel => exact ⟨k + 1, by go_num, by omega, by simpa using HST, HE2⟩
              case measure => simp [intOf]; omega
            · have HN := Lib.hid (mix_odd hx hy hev)
              have HB := Lib.hid HF.out.2
              have q1' : (x + y).tmod 2 = 1 := by omega
              clear hx hy hev q1
              go_wp2_with fail
              go_ret2
              exact rowOk_ret HN.out (mix_no HN.out) (nil_own _ _) HB.out
          · have HA := Lib.hid (HF.out.all (by rw [HSL.out, HZ.out]) (by rw [HZ.out]; omega))
            have HB : Hid (mixB a b = true) := Lib.hid (by rw [HI.out]; exact HE.out.all (by omega))
            go_wp2_with fail
            go_ret2
            exact rowOk_ret HB.out (mix_yes HB.out) HA.out.1 HA.out.2
      · have HN : Hid (mixB a b = false) := Lib.hid (by rw [mixB, decide_eq_false hlen]; simp)
        have hs1 : ((a.length : Int) == (b.length : Int)) = false := by simp; omega
        have hs2 : ((a.length : Int) != (b.length : Int)) = true := by simp; omega
        clear hlen
        go_enter Try.func52, Try.ntmps52
        go_wp2_with fail
        refine (implMeasureOk_any _ _ _ HV.out).mono ?_
        rintro e w' ⟨rfl, rfl⟩
        rw [h1]
        go_wp2_with fail
        refine (implMeasureOk_any _ _ _ HU.out).mono ?_
        rintro e w' ⟨rfl, rfl⟩
        rw [h2]
        go_wp2_with fail
        go_ret2
        exact rowOk_ret HN.out (mix_no HN.out) (nil_own _ _) (Below.refl _ _)
    · have HN : Hid (mixB a b = false) := Lib.hid (by rw [mixB, h2]; simp)
      go_enter Try.func52, Try.ntmps52
      go_wp2_with fail
      refine (implMeasureOk_any _ _ _ HV.out).mono ?_
      rintro e w' ⟨rfl, rfl⟩
      rw [h1]
      go_wp2_with fail
      refine (implMeasureOk_any _ _ _ HU.out).mono ?_
      rintro e w' ⟨rfl, rfl⟩
      rw [h2]
      go_wp2_with fail
      go_ret2
      exact rowOk_ret HN.out (mix_no HN.out) (nil_own _ _) (Below.refl _ _)
  · have HN : Hid (mixB a b = false) := Lib.hid (by rw [mixB, h1]; simp)
    go_enter Try.func52, Try.ntmps52
    go_wp2_with fail
    refine (implMeasureOk_any _ _ _ HV.out).mono ?_
    rintro e w' ⟨rfl, rfl⟩
    rw [h1]
    go_wp2_with fail
    go_ret2
    exact rowOk_ret HN.out (mix_no HN.out) (nil_own _ _) (Below.refl _ _)

end Go.Proofs.Ytfdgelikmhaagaa
