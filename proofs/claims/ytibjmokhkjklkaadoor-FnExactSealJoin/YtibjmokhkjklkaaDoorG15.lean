/- Texts of ours put together: EvI. -/
import Derived.Test.YtibjmokhkjklkaaDoorG02
import Derived.Test.YtibjmokhkjklkaaDoorG14
import Derived.Laws.StructEq
import Derived.Deep.RegionHeld3
namespace Go.Proofs.YtibjmokhkjklkaaDoor
open Go.ChangeShapes Go.WideShapes Go.ChangeAt Go.RowKit
theorem bx4e {W : World} {b t : Nat} {x0 x1 x2 x3 : Value} (h : W.heap[b]? = some (.cells #[x0, x1, x2, x3] t)) : W.cell? ⟨b, 0, none⟩ = some x0 ∧ W.cell? ⟨b, 1, none⟩ = some x1 ∧ W.cell? ⟨b, 2, none⟩ = some x2 ∧ W.cell? ⟨b, 3, none⟩ = some x3 := by
  refine ⟨?_, ?_, ?_, ?_⟩ <;> simp [World.cell?, h]
/-- Are two events the same? As the walk tells it. -/
def evE (g h : EvR) : Bool := (g.kind == h.kind) && ((g.a.toList == h.a.toList) && ((g.b.toList == h.b.toList) && (g.c.toList == h.c.toList)))
theorem evE_iff (g h : EvR) : evE g h = true ↔ g = h := by
  have key : ∀ s t : ByteArray, s.toList = t.toList ↔ s = t := fun s t => ⟨fun e => by rw [ByteArray.toList_eq, ByteArray.toList_eq] at e; exact ByteArray.ext (Array.toList_inj.1 e), fun e => by rw [e]⟩
  obtain ⟨a, b, c, d⟩ := g
  obtain ⟨a', b', c', d'⟩ := h
  simp [evE, key]
theorem evUnder : Tryd.prog.underlying 40 = some (.struct (Tryd.prog.fieldsOf 40)) := by kernel_rfl
set_option maxRecDepth 100000 in
theorem run_eq_ev (g h : EvR) (w : World) : (binOp .eql 40 (.agg #[.int .i64 g.kind, .string g.a, .string g.b, .string g.c]) (.agg #[.int .i64 h.kind, .string h.a, .string h.b, .string h.c])).run Tryd.prog w = .ok (.bool (evE g h)) w := by
  have hF : Tryd.prog.fieldsOf 40 = (match Tryd.prog.underlying 40 with | some (.struct fs) => fs | _ => #[]) := rfl
  rw [Tryd.underlying40] at hF
  rw [run_eql_struct, run_equalIn_struct _ _ _ _ _ evUnder (by kernel_rfl), hF]
  simp [go_sem, Op.eqFields]
  unfold evE
  repeat' split
  all_goals simp_all
set_option maxHeartbeats 1000000 in
theorem toCross_any (e : EvR) (w : World) : Calls Tryd.prog 47 #[.agg #[.int .i64 e.kind, .string e.a, .string e.b, .string e.c]] w fun r w' => r = .returned (.agg #[.string e.a, .string e.b, .string e.c]) ∧ Below w.heap.size w w' := by
  obtain ⟨kind, a, b, c⟩ := e
  dsimp only
  have HB : Hid (∀ o, Below w.heap.size w (w.alloc o)) := fun o => (Below.refl _ _).alloc (Nat.le_refl _) _
  go_enter Tryd.func47, Tryd.ntmps47
  go_wp2
  exact bodyPost_ret (v := .agg #[.string a, .string b, .string c]) (by simp [results, Tryd.results47, go_sem]) rfl ⟨rfl, by first | exact (((Below.refl _ _).alloc (Nat.le_refl _) _).alloc (by simp) _).alloc (by simp; omega) _ | exact ((Below.refl _ _).alloc (Nat.le_refl _) _).alloc (by simp) _⟩
set_option maxHeartbeats 4000000 in
theorem eventRight_impl (e : EvR) (w : World) : Calls Tryd.prog 33 #[.agg #[.int .i64 e.kind, .string e.a, .string e.b, .string e.c]] w fun r w' => r = .returned (.bool (evB e)) ∧ Below w.heap.size w w' := by
  obtain ⟨r, hr⟩ : ∃ r, r = evB e := ⟨_, rfl⟩
  have HR : Hid (r = evB e) := hr
  rw [← hr]
  clear hr
  obtain ⟨kind, a, b, c⟩ := e
  dsimp only
  have HB : Hid (∀ o, Below w.heap.size w (w.alloc o)) := fun o => (Below.refl _ _).alloc (Nat.le_refl _) _
  by_cases h1 : kind = 1
  · subst h1
    have Q := isName_any a
    cases hn : nameB a
    · obtain rfl : r = false := by rw [HR.out]; exact evB_no fun h => by rcases h.ok with h | h | h | h <;> simp_all
      rw [hn] at Q
      go_enter Tryd.func33, Tryd.ntmps33
      go_wp2_with (go_at_call 45; refine (Q _).mono ?_; rintro e w' ⟨rfl, rfl⟩)
      go_ret
      exact ⟨rfl, HB.out _⟩
    · rw [hn] at Q
      have hrn := run_eq_ev ⟨1, a, b, c⟩ ⟨1, a, ⟨#[]⟩, ⟨#[]⟩⟩
      have he : evE ⟨1, a, b, c⟩ ⟨1, a, ⟨#[]⟩, ⟨#[]⟩⟩ = r := by
        rw [HR.out, Bool.eq_iff_iff, evE_iff, evB_iff]
        exact ⟨fun h => ⟨.inl ⟨rfl, hn, congrArg EvR.b h, congrArg EvR.c h⟩⟩, fun h => by rcases h.ok with h | h | h | h <;> simp_all⟩
      rw [he] at hrn
      dsimp only at hrn
      clear he
      go_enter Tryd.func33, Tryd.ntmps33
      go_wp2_with (go_at_call 45; refine (Q _).mono ?_; rintro e w' ⟨rfl, rfl⟩)
      go_ret
      exact ⟨rfl, HB.out _⟩
  by_cases h2 : kind = 2
  · subst h2
    have he : crsB ⟨a, b, c⟩ = r := by
      rw [HR.out, Bool.eq_iff_iff, evB_iff]
      unfold crsB
      simp only [Bool.and_eq_true]
      exact ⟨fun h => ⟨.inr (.inl ⟨rfl, h.1, h.2.1, h.2.2⟩)⟩, fun h => by rcases h.ok with h | h | h | h <;> simp_all⟩
    have Q := isCross_any ⟨a, b, c⟩
    rw [he] at Q
    clear he
    go_enter Tryd.func33, Tryd.ntmps33
    go_wp2_with fail
    refine (toCross_any ⟨2, a, b, c⟩ _).mono ?_
    rintro e w1 ⟨rfl, hb1⟩
    have H1 : Hid (Below w.heap.size w w1) := (HB.out _).trans (hb1.mono (HB.out _).size)
    clear hb1
    go_wp2_with fail
    refine (Q _).mono ?_
    rintro e w2 ⟨rfl, hb2⟩
    have H2 : Hid (Below w.heap.size w w2) := H1.out.trans (hb2.mono H1.out.size)
    clear hb2 H1
    go_wp2
    go_ret
    exact ⟨rfl, H2.out⟩
  by_cases h3 : kind = 3
  · subst h3
    by_cases hn : a.size ≤ 4000
    · have hrn := run_eq_ev ⟨3, a, b, c⟩ ⟨3, a, ⟨#[]⟩, ⟨#[]⟩⟩
      have he : evE ⟨3, a, b, c⟩ ⟨3, a, ⟨#[]⟩, ⟨#[]⟩⟩ = r := by
        rw [HR.out, Bool.eq_iff_iff, evE_iff, evB_iff]
        exact ⟨fun h => ⟨.inr (.inr (.inl ⟨rfl, hn, congrArg EvR.b h, congrArg EvR.c h⟩))⟩, fun h => by rcases h.ok with h | h | h | h <;> simp_all⟩
      rw [he] at hrn
      dsimp only at hrn
      clear he
      have hn' : (a.size : Int) ≤ 4000 := by omega
      go_enter Tryd.func33, Tryd.ntmps33
      go_wp2
      go_ret
      exact ⟨rfl, HB.out _⟩
    · obtain rfl : r = false := by rw [HR.out]; exact evB_no fun h => by rcases h.ok with h | h | h | h <;> simp_all
      have hn' : ¬ (a.size : Int) ≤ 4000 := by omega
      go_enter Tryd.func33, Tryd.ntmps33
      go_wp2
      go_ret
      exact ⟨rfl, HB.out _⟩
  have hrn := run_eq_ev ⟨kind, a, b, c⟩ ⟨4, ⟨#[]⟩, ⟨#[]⟩, ⟨#[]⟩⟩
  have he : evE ⟨kind, a, b, c⟩ ⟨4, ⟨#[]⟩, ⟨#[]⟩, ⟨#[]⟩⟩ = r := by
    rw [HR.out, Bool.eq_iff_iff, evE_iff, evB_iff]
    exact ⟨fun h => by cases h; exact ⟨.inr (.inr (.inr ⟨rfl, rfl, rfl, rfl⟩))⟩, fun h => by rcases h.ok with h | h | h | h <;> simp_all⟩
  rw [he] at hrn
  dsimp only at hrn
  clear he
  go_enter Tryd.func33, Tryd.ntmps33
  go_wp2
  go_ret
  exact ⟨rfl, HB.out _⟩
end Go.Proofs.YtibjmokhkjklkaaDoor
