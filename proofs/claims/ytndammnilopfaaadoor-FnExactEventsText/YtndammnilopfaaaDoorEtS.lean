/- Contract of the model's EventsText. -/
import Derived.Test.YtndammnilopfaaaDoorEtP
import Derived.Test.YtndammnilopfaaaDoorHxS
import Derived.Test.YtndammnilopfaaaDoorEvS
import Derived.Laws.Concat
namespace Go.Proofs.YtndammnilopfaaaDoor
open Go.ChangeShapes Go.WideShapes Go.ChangeAt Go.RowKit
set_option maxHeartbeats 4000000 in
theorem l16Text_any (e : EvR) (ho : EvOk e) (w : World) : Calls Tryd.prog 17 #[.agg #[.int .i64 e.kind, .string e.a, .string e.b, .string e.c]] w fun x w' => x = .returned (.string (evX e)) ∧ Below w.heap.size w w' := by
  obtain ⟨kind, a, b, c⟩ := e
  dsimp only
  have HB : Hid (∀ o, Below w.heap.size w (w.alloc o)) := fun o => (Below.refl _ _).alloc (Nat.le_refl _) _
  have e8 : (⟨#[112, 97, 114, 116, 110, 101, 114, 32]⟩ : ByteArray).size = 8 := rfl
  have e6 : (⟨#[99, 114, 111, 115, 115, 32]⟩ : ByteArray).size = 6 := rfl
  have e1 : (⟨#[32]⟩ : ByteArray).size = 1 := rfl
  have e5 : (⟨#[116, 97, 107, 101, 32]⟩ : ByteArray).size = 5 := rfl
  rcases ho.ok with ⟨hk, hn, hb, hc⟩ | ⟨hk, hn1, hn2, hn3⟩ | ⟨hk, hn, hb, hc⟩ | ⟨hk, ha, hb, hc⟩
  · simp only at hk hn
    subst hk
    have HE : Hid (evX ⟨1, a, b, c⟩ = (⟨#[112, 97, 114, 116, 110, 101, 114, 32]⟩ : ByteArray) ++ a) := rfl
    have z1 := nm12 hn
    have q1 : ∀ W, (Op.stringOp .add (⟨#[112, 97, 114, 116, 110, 101, 114, 32]⟩ : ByteArray) a).run Tryd.prog W = .ok (.string ((⟨#[112, 97, 114, 116, 110, 101, 114, 32]⟩ : ByteArray) ++ a)) W := fun W => run_string_add_sum _ _ _ (by omega)
    clear e8 e6 e1 e5 z1 hn hb hc
    go_enter Tryd.func17, Tryd.ntmps17
    go_wp2
    go_ret
    exact ⟨by rw [HE.out]; rfl, HB.out _⟩
  · simp only at hk hn1 hn2 hn3
    subst hk
    have HE : Hid (evX ⟨2, a, b, c⟩ = (((((⟨#[99, 114, 111, 115, 115, 32]⟩ : ByteArray) ++ a) ++ (⟨#[32]⟩ : ByteArray)) ++ b) ++ (⟨#[32]⟩ : ByteArray)) ++ c) := rfl
    have z1 := nm12 hn1
    have z2 := nm12 hn2
    have z3 := nm12 hn3
    have q1 : ∀ W, (Op.stringOp .add (⟨#[99, 114, 111, 115, 115, 32]⟩ : ByteArray) a).run Tryd.prog W = .ok (.string ((⟨#[99, 114, 111, 115, 115, 32]⟩ : ByteArray) ++ a)) W := fun W => run_string_add_sum _ _ _ (by omega)
    have q2 : ∀ W, (Op.stringOp .add ((⟨#[99, 114, 111, 115, 115, 32]⟩ : ByteArray) ++ a) (⟨#[32]⟩ : ByteArray)).run Tryd.prog W = .ok (.string (((⟨#[99, 114, 111, 115, 115, 32]⟩ : ByteArray) ++ a) ++ (⟨#[32]⟩ : ByteArray))) W := fun W => run_string_add_sum _ _ _ (by simp only [ByteArray.size_append]; omega)
    have q3 : ∀ W, (Op.stringOp .add (((⟨#[99, 114, 111, 115, 115, 32]⟩ : ByteArray) ++ a) ++ (⟨#[32]⟩ : ByteArray)) b).run Tryd.prog W = .ok (.string ((((⟨#[99, 114, 111, 115, 115, 32]⟩ : ByteArray) ++ a) ++ (⟨#[32]⟩ : ByteArray)) ++ b)) W := fun W => run_string_add_sum _ _ _ (by simp only [ByteArray.size_append]; omega)
    have q4 : ∀ W, (Op.stringOp .add ((((⟨#[99, 114, 111, 115, 115, 32]⟩ : ByteArray) ++ a) ++ (⟨#[32]⟩ : ByteArray)) ++ b) (⟨#[32]⟩ : ByteArray)).run Tryd.prog W = .ok (.string (((((⟨#[99, 114, 111, 115, 115, 32]⟩ : ByteArray) ++ a) ++ (⟨#[32]⟩ : ByteArray)) ++ b) ++ (⟨#[32]⟩ : ByteArray))) W := fun W => run_string_add_sum _ _ _ (by simp only [ByteArray.size_append]; omega)
    have q5 : ∀ W, (Op.stringOp .add (((((⟨#[99, 114, 111, 115, 115, 32]⟩ : ByteArray) ++ a) ++ (⟨#[32]⟩ : ByteArray)) ++ b) ++ (⟨#[32]⟩ : ByteArray)) c).run Tryd.prog W = .ok (.string ((((((⟨#[99, 114, 111, 115, 115, 32]⟩ : ByteArray) ++ a) ++ (⟨#[32]⟩ : ByteArray)) ++ b) ++ (⟨#[32]⟩ : ByteArray)) ++ c)) W := fun W => run_string_add_sum _ _ _ (by simp only [ByteArray.size_append]; omega)
    clear e8 e6 e1 e5 z1 z2 z3 hn1 hn2 hn3
    go_enter Tryd.func17, Tryd.ntmps17
    go_wp2
    go_ret
    exact ⟨by rw [HE.out]; rfl, HB.out _⟩
  · simp only at hk hn
    subst hk
    clear hb hc ho
    by_cases h0 : a.size = 0
    · obtain rfl : a = ⟨#[]⟩ := ByteArray.ext (Array.eq_empty_of_size_eq_zero h0)
      have HE : Hid (evX ⟨3, ⟨#[]⟩, b, c⟩ = ⟨#[116, 97, 107, 101, 32, 45]⟩) := rfl
      clear e8 e6 e1 e5
      go_enter Tryd.func17, Tryd.ntmps17
      go_wp2
      go_ret
      exact ⟨by rw [HE.out]; rfl, HB.out _⟩
    · have e9 : takeT a = ⟨(hexB a.data.toList).toArray⟩ := if_neg h0
      have e10 : hexT a = takeT a := by rw [e9]; unfold hexT; rw [if_neg (by omega)]
      have z1 := takeT_size hn
      have Q := hex_spec a
      rw [e10] at Q
      obtain ⟨tt, htt⟩ : ∃ tt, tt = takeT a := ⟨_, rfl⟩
      have HE : Hid (evX ⟨3, a, b, c⟩ = (⟨#[116, 97, 107, 101, 32]⟩ : ByteArray) ++ tt) := by rw [htt]; rfl
      rw [← htt] at Q z1
      have q1 : ∀ W, (Op.stringOp .add (⟨#[116, 97, 107, 101, 32]⟩ : ByteArray) tt).run Tryd.prog W = .ok (.string ((⟨#[116, 97, 107, 101, 32]⟩ : ByteArray) ++ tt)) W := fun W => run_string_add_sum _ _ _ (by omega)
      obtain ⟨n1, n2⟩ := nonE (s := a) fun e => h0 (by rw [e]; rfl)
      clear e8 e6 e1 e5 z1 e9 e10 htt
      go_enter Tryd.func17, Tryd.ntmps17
      go_wp2_with fail
      refine (Q _).mono ?_
      rintro e w1 ⟨rfl, hb1⟩
      have H1 : Hid (Below w.heap.size w w1) := (HB.out _).trans (hb1.mono (HB.out _).size)
      clear hb1 Q
      go_wp2
      go_ret
      exact ⟨by rw [HE.out]; rfl, H1.out⟩
  · simp only at hk
    subst hk
    have HE : Hid (evX ⟨4, a, b, c⟩ = ⟨#[110, 101, 120, 116]⟩) := rfl
    clear e8 e6 e1 e5 ha hb hc ho
    go_enter Tryd.func17, Tryd.ntmps17
    go_wp2
    go_ret
    exact ⟨by rw [HE.out]; rfl, HB.out _⟩
set_option maxRecDepth 20000 in
set_option maxHeartbeats 8000000 in
theorem eventsText_spec (v : Value) (rs : List EvR) (w : World) (h : RowEv w v rs) : Calls Tryd.prog 6 #[v] w fun e w' => e = .returned (.string (evT rs)) ∧ Below w.heap.size w w' := by
  obtain ⟨A, cap, rfl⟩ := h.val
  have hlen := h.len
  have H1 : Hid (RowEv w (.slice A rs.length cap) rs) := h
  clear h
  go_enter Tryd.func6, Tryd.ntmps6
  by_cases hg : rs.length ≤ 60
  case neg =>
    have hg' : (rs.length : Int) > 60 := by omega
    have HN : Hid (evT rs = ⟨#[]⟩) := evT_long hg
    go_wp2
    go_ret
    exact ⟨by rw [HN.out]; rfl, Below.refl _ _⟩
  have hg' : ¬ (rs.length : Int) > 60 := by omega
  go_wp2_with fail
  go_loopw [3, 4] (fun tv ix wr => ∃ k : Nat, ix = .int .i64 (k : Int) ∧ k ≤ rs.length ∧ tv = .string (txB ((rs.map evR).take k)) ∧ (∀ i c, i < k → rs[i]? = some c → evB c = true) ∧ Below w.heap.size w wr) (fun _ ix _ => rs.length - (intOf ix).toNat)
  case atStart => exact ⟨0, rfl, by omega, rfl, fun i c hi => by omega, Below.refl _ _⟩
  case round =>
    obtain ⟨k, rfl, hk, rfl, hok, hb⟩ := hrel
    by_cases hlt : k < rs.length
    · have hlt' : (k : Int) < (rs.length : Int) := by omega
      obtain ⟨b, o, cap', l, e, hs, hat, hz⟩ := (H1.out.below hb).at hlt
      simp only [Value.slice.injEq, true_and] at e
      obtain ⟨rfl, rfl⟩ := e
      have HI : Hid ((∀ i c, i < k → rs[i]? = some c → evB c = true) ∧ rs[k]? = some l ∧ Below w.heap.size w wr) := ⟨hok, hs, hb⟩
      have HC : Hid (∀ W, Below wr.heap.size wr W → AtEv W b (o + k * 4) l) := fun W hW => hat.below hW
      have QR := eventRight_spec l
      obtain ⟨x, hx⟩ : ∃ x, x = evB l := ⟨_, rfl⟩
      have HX : Hid (x = evB l) := hx
      rw [← hx] at QR
      obtain ⟨t, htt⟩ : ∃ t, t = txB ((rs.map evR).take k) := ⟨_, rfl⟩
      have HT0 : Hid (t = txB ((rs.map evR).take k)) := htt
      try rw [← htt]
      obtain ⟨p0, p1, p2, p3⟩ := hat
      clear hs hz hb hok htt hx
      go_wp2_with fail
      refine (QR _).mono ?_
      rintro e w2 ⟨rfl, hb2⟩
      clear p0 p1 p2 p3
      cases x with
      | false =>
        have HE : Hid (Below w.heap.size w w2 ∧ evT rs = ⟨#[]⟩) := ⟨HI.out.2.2.trans (hb2.mono HI.out.2.2.size), evT_no (allE_at HI.out.2.1 HX.out.symm)⟩
        clear hb2
        go_wp2
        go_ret
        exact ⟨by rw [HE.out.2]; rfl, HE.out.1⟩
      | true =>
        have HOK : Hid (EvOk l) := evB_iff.1 HX.out.symm
        have z0 := evX_size HX.out.symm
        have hall : ∀ c ∈ rs.take k, evB c = true := fun c hc => by
          obtain ⟨i, hi⟩ := List.mem_iff_getElem?.1 hc
          have hik : i < k := by
            have := (List.getElem?_eq_some_iff.1 hi).1
            rw [List.length_take] at this
            omega
          rw [List.getElem?_take_of_lt hik] at hi
          exact HI.out.1 i c hik hi
        have ht3 : t.size ≤ 9001 * 60 := by
          rw [HT0.out, ← List.map_take, txB_size]
          refine Nat.le_trans (evs_len hall) ?_
          rw [List.length_take]
          omega
        have hnx := txB_next (rows := rs.map evR) (k := k) (r := evR l) (by rw [List.getElem?_map, HI.out.2.1]; rfl)
        rw [← evX_app, ← HT0.out] at hnx
        have Q1 := l16Text_any l HOK.out
        obtain ⟨y, hy⟩ : ∃ y, y = evX l := ⟨_, rfl⟩
        rw [← hy] at hnx z0 Q1
        have e2 : (⟨#[10]⟩ : ByteArray).size = 1 := rfl
        have HT : Hid (txB ((rs.map evR).take (k + 1)) = ((t ++ y) ++ (⟨#[10]⟩ : ByteArray))) := hnx
        have q0 : ∀ W, (Op.stringOp .add t y).run Tryd.prog W = .ok (.string (t ++ y)) W := fun W => run_string_add_sum _ _ _ (by omega)
        have q1 : ∀ W, (Op.stringOp .add (t ++ y) (⟨#[10]⟩ : ByteArray)).run Tryd.prog W = .ok (.string ((t ++ y) ++ (⟨#[10]⟩ : ByteArray))) W := fun W => run_string_add_sum _ _ _ (by simp only [ByteArray.size_append, e2]; omega)
        obtain ⟨p0, p1, p2, p3⟩ := HC.out w2 hb2
        have HB2 : Hid (Below w.heap.size w w2) := HI.out.2.2.trans (hb2.mono HI.out.2.2.size)
        clear hb2 hnx hy z0 ht3 e2 hall
        go_wp2_with fail
        refine (Q1 _).mono ?_
        rintro e w3 ⟨rfl, hb3⟩
        have HE : Hid (Below w.heap.size w w3) := HB2.out.trans (hb3.mono HB2.out.size)
        clear hb3 p0 p1 p2 p3
        go_wp2
        go_roundw
        case rel =>
          refine ⟨k + 1, by go_num, by omega, by rw [HT.out], fun i c hi hc => ?_, HE.out⟩
          rcases Nat.lt_or_ge i k with g | g
          · exact HI.out.1 i c g hc
          · obtain rfl : i = k := by omega
            rw [HI.out.2.1] at hc
            cases hc
            exact HX.out.symm
        case measure => simp [intOf]; omega
    · obtain rfl : k = rs.length := by omega
      have HE : Hid (Below w.heap.size w wr ∧ txB ((rs.map evR).take rs.length) = evT rs) := ⟨hb, by rw [evT_yes hg (allE_yes hok), List.take_of_length_le (by simp)]⟩
      clear hb hok
      go_wp2
      go_ret
      exact ⟨by rw [← HE.out.2]; rfl, HE.out.1⟩
end Go.Proofs.YtndammnilopfaaaDoor
