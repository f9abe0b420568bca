/- Texts of ours put together: EtT. -/
import Derived.Test.YtibjmokhkjklkaaDoorG04
import Derived.Test.YtibjmokhkjklkaaDoorG26
import Derived.Laws.Concat
namespace Go.Proofs.YtibjmokhkjklkaaDoor
open Go.ChangeShapes Go.WideShapes Go.ChangeAt Go.RowKit
set_option maxHeartbeats 4000000 in
theorem l16Text_any (e : EvR) (ho : EvOk e) (w : World) : Calls Tryd.prog 24 #[.agg #[.int .i64 e.kind, .string e.a, .string e.b, .string e.c]] w fun x w' => x = .returned (.string (evX e)) ∧ Below w.heap.size w w' := by
  obtain ⟨kind, a, b, c⟩ := e
  dsimp only
  have HB : Hid (∀ o, Below w.heap.size w (w.alloc o)) := fun o => (Below.refl _ _).alloc (Nat.le_refl _) _
  have e8 : (⟨#[112, 97, 114, 116, 110, 101, 114, 32]⟩ : ByteArray).size = 8 := rfl
  have e6 : (⟨#[99, 114, 111, 115, 115, 32]⟩ : ByteArray).size = 6 := rfl
  have e1 : (⟨#[32]⟩ : ByteArray).size = 1 := rfl
  have e5 : (⟨#[116, 97, 107, 101, 32]⟩ : ByteArray).size = 5 := rfl
  rcases ho.ok with ⟨hk, hn, hb, hc⟩ | ⟨hk, hn1, hn2, hn3⟩ | ⟨hk, hn, hb, hc⟩ | ⟨hk, ha, hb, hc⟩
  · simp only at hk hn
    subst hk
    have HE : Hid (evX ⟨1, a, b, c⟩ = (⟨#[112, 97, 114, 116, 110, 101, 114, 32]⟩ : ByteArray) ++ a) := rfl
    have z1 := nm12 hn
    have q1 : ∀ W, (Op.stringOp .add (⟨#[112, 97, 114, 116, 110, 101, 114, 32]⟩ : ByteArray) a).run Tryd.prog W = .ok (.string ((⟨#[112, 97, 114, 116, 110, 101, 114, 32]⟩ : ByteArray) ++ a)) W := fun W => run_string_add_sum _ _ _ (by omega)
    clear e8 e6 e1 e5 z1 hn hb hc
    go_enter Tryd.func24, Tryd.ntmps24
    go_wp2
    go_ret
    exact ⟨by rw [HE.out]; rfl, HB.out _⟩
  · simp only at hk hn1 hn2 hn3
    subst hk
    have HE : Hid (evX ⟨2, a, b, c⟩ = (((((⟨#[99, 114, 111, 115, 115, 32]⟩ : ByteArray) ++ a) ++ (⟨#[32]⟩ : ByteArray)) ++ b) ++ (⟨#[32]⟩ : ByteArray)) ++ c) := rfl
    have z1 := nm12 hn1
    have z2 := nm12 hn2
    have z3 := nm12 hn3
    have q1 : ∀ W, (Op.stringOp .add (⟨#[99, 114, 111, 115, 115, 32]⟩ : ByteArray) a).run Tryd.prog W = .ok (.string ((⟨#[99, 114, 111, 115, 115, 32]⟩ : ByteArray) ++ a)) W := fun W => run_string_add_sum _ _ _ (by omega)
    have q2 : ∀ W, (Op.stringOp .add ((⟨#[99, 114, 111, 115, 115, 32]⟩ : ByteArray) ++ a) (⟨#[32]⟩ : ByteArray)).run Tryd.prog W = .ok (.string (((⟨#[99, 114, 111, 115, 115, 32]⟩ : ByteArray) ++ a) ++ (⟨#[32]⟩ : ByteArray))) W := fun W => run_string_add_sum _ _ _ (by simp only [ByteArray.size_append]; omega)
    have q3 : ∀ W, (Op.stringOp .add (((⟨#[99, 114, 111, 115, 115, 32]⟩ : ByteArray) ++ a) ++ (⟨#[32]⟩ : ByteArray)) b).run Tryd.prog W = .ok (.string ((((⟨#[99, 114, 111, 115, 115, 32]⟩ : ByteArray) ++ a) ++ (⟨#[32]⟩ : ByteArray)) ++ b)) W := fun W => run_string_add_sum _ _ _ (by simp only [ByteArray.size_append]; omega)
    have q4 : ∀ W, (Op.stringOp .add ((((⟨#[99, 114, 111, 115, 115, 32]⟩ : ByteArray) ++ a) ++ (⟨#[32]⟩ : ByteArray)) ++ b) (⟨#[32]⟩ : ByteArray)).run Tryd.prog W = .ok (.string (((((⟨#[99, 114, 111, 115, 115, 32]⟩ : ByteArray) ++ a) ++ (⟨#[32]⟩ : ByteArray)) ++ b) ++ (⟨#[32]⟩ : ByteArray))) W := fun W => run_string_add_sum _ _ _ (by simp only [ByteArray.size_append]; omega)
    have q5 : ∀ W, (Op.stringOp .add (((((⟨#[99, 114, 111, 115, 115, 32]⟩ : ByteArray) ++ a) ++ (⟨#[32]⟩ : ByteArray)) ++ b) ++ (⟨#[32]⟩ : ByteArray)) c).run Tryd.prog W = .ok (.string ((((((⟨#[99, 114, 111, 115, 115, 32]⟩ : ByteArray) ++ a) ++ (⟨#[32]⟩ : ByteArray)) ++ b) ++ (⟨#[32]⟩ : ByteArray)) ++ c)) W := fun W => run_string_add_sum _ _ _ (by simp only [ByteArray.size_append]; omega)
    clear e8 e6 e1 e5 z1 z2 z3 hn1 hn2 hn3
    go_enter Tryd.func24, Tryd.ntmps24
    go_wp2
    go_ret
    exact ⟨by rw [HE.out]; rfl, HB.out _⟩
  · simp only at hk hn
    subst hk
    clear hb hc ho
    by_cases h0 : a.size = 0
    · obtain rfl : a = ⟨#[]⟩ := ByteArray.ext (Array.eq_empty_of_size_eq_zero h0)
      have HE : Hid (evX ⟨3, ⟨#[]⟩, b, c⟩ = ⟨#[116, 97, 107, 101, 32, 45]⟩) := rfl
      clear e8 e6 e1 e5
      go_enter Tryd.func24, Tryd.ntmps24
      go_wp2
      go_ret
      exact ⟨by rw [HE.out]; rfl, HB.out _⟩
    · have e9 : takeT a = ⟨(hexB a.data.toList).toArray⟩ := if_neg h0
      have e10 : hexT a = takeT a := by rw [e9]; unfold hexT; rw [if_neg (by omega)]
      have z1 := takeT_size hn
      have Q := hex_spec a
      rw [e10] at Q
      obtain ⟨tt, htt⟩ : ∃ tt, tt = takeT a := ⟨_, rfl⟩
      have HE : Hid (evX ⟨3, a, b, c⟩ = (⟨#[116, 97, 107, 101, 32]⟩ : ByteArray) ++ tt) := by rw [htt]; rfl
      rw [← htt] at Q z1
      have q1 : ∀ W, (Op.stringOp .add (⟨#[116, 97, 107, 101, 32]⟩ : ByteArray) tt).run Tryd.prog W = .ok (.string ((⟨#[116, 97, 107, 101, 32]⟩ : ByteArray) ++ tt)) W := fun W => run_string_add_sum _ _ _ (by omega)
      obtain ⟨n1, n2⟩ := nonE (s := a) fun e => h0 (by rw [e]; rfl)
      clear e8 e6 e1 e5 z1 e9 e10 htt
      go_enter Tryd.func24, Tryd.ntmps24
      go_wp2_with fail
      refine (Q _).mono ?_
      rintro e w1 ⟨rfl, hb1⟩
      have H1 : Hid (Below w.heap.size w w1) := (HB.out _).trans (hb1.mono (HB.out _).size)
      clear hb1 Q
      go_wp2
      go_ret
      exact ⟨by rw [HE.out]; rfl, H1.out⟩
  · simp only at hk
    subst hk
    have HE : Hid (evX ⟨4, a, b, c⟩ = ⟨#[110, 101, 120, 116]⟩) := rfl
    clear e8 e6 e1 e5 ha hb hc ho
    go_enter Tryd.func24, Tryd.ntmps24
    go_wp2
    go_ret
    exact ⟨by rw [HE.out]; rfl, HB.out _⟩
end Go.Proofs.YtibjmokhkjklkaaDoor
