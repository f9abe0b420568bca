/- FnTakeOnce returns true at every list of bytes and leaves it as it was, on condition that the draw tells a partner: a number taken as new is, taken once more, told to be there again. -/
import Derived.Test.YtbnjieppcojckaaOnceP
import Derived.Test.YtbnjieppcojckaaLwPt
import Derived.Test.YtbnjieppcojckaaSrcNew
import Derived.Test.YtbnjieppcojckaaPtkI
import Derived.Test.YtbnjieppcojckaaPtkS
namespace Go.Proofs.Ytbnjieppcojckaa
open Go.ChangeShapes Go.WideShapes Go.ChangeAt Go.RowKit
set_option linter.unusedVariables false
namespace fnTakeOnce
def IsRow (k : IntKind) (w : World) (a : Option Addr) (len cap : Nat) (zs : List Int) : Prop :=
  (a = none ∧ len = 0 ∧ cap = 0 ∧ zs = []) ∨
  ∃ x, a = some x ∧ len ≤ cap ∧ cap ≤ maxLen ∧ zs.length = cap ∧ (∀ i, i < zs.length → w.cell? (x.add i) = some (.int k (zs.getD i 0))) ∧ ∀ n ∈ zs, (Lit.int k n).wf = true
theorem IsRow.bytesAt {w : World} {a : Option Addr} {len cap : Nat} {zs : List Int} (h : IsRow .u8 w a len cap zs) : BytesAt w a len zs := by
  intro g
  rcases h with ⟨_, rfl, _, _⟩ | ⟨x, rfl, hl, _, hz, hc, _⟩
  · omega
  · obtain ⟨b, off, spot⟩ := x
    have h0 := hc 0 (by omega)
    have hspot : spot = none := by simpa [Addr.add] using World.cell?_spot h0
    subst hspot
    refine ⟨b, off, rfl, fun i hi => ?_⟩
    have hplain : (⟨b, off, none⟩ : Addr).add i = ⟨b, off + i, none⟩ := by unfold Addr.add; split <;> simp_all
    have := hc i (by omega)
    rw [hplain] at this
    simpa [List.getD] using this
theorem IsRow.len_le {w : World} {a : Option Addr} {len cap : Nat} {zs : List Int} (h : IsRow .u8 w a len cap zs) : len ≤ 9223372036854775807 := by
  rcases h with ⟨_, rfl, _, _⟩ | ⟨x, rfl, hl, hm, hz, hc, _⟩
  · omega
  · unfold maxLen at hm
    omega
/-- What the law wants of the draw. -/
def DrawsTake : Prop := ∀ (a : Option Addr) (len cap : Nat) (zs : List Int) (w : World), len ≤ 1048576 → BytesAt w a len zs → Calls Try.prog 8 #[.slice a len cap] w fun e w' => ∃ (p : Ptn) (v : Value) (k c : Int), e = .returned (.tuple #[.agg #[.string p.name, .int .i64 p.low, .int .i64 p.next, v], .int .i64 k, .int .i64 c]) ∧ RPt w' v p ∧ Fair v ∧ Below w.heap.size w w'
theorem run_eql_sn (a b c : Int) (w : World) : (binOp .eql 34 (.agg #[.int .i64 a, .int .i64 b, .int .i64 c]) (.agg #[.int .i64 a, .int .i64 b, .int .i64 c])).run Try.prog w = .ok (.bool true) w := by
  have hF : Try.prog.fieldsOf 34 = (match Try.prog.underlying 34 with | some (.struct fs) => fs | _ => #[]) := rfl
  rw [Try.underlying34] at hF
  rw [run_eql_struct, run_equalIn_struct _ _ _ _ _ snUnder (by kernel_rfl), hF]
  simp [go_sem, Op.eqFields]
theorem takeT_name {p : Ptn} {k c : Int} (h : p.name.size ≤ 9223372036854775807) : (takeT p k c).p.name.size ≤ 9223372036854775807 := by
  unfold takeT
  split
  · split
    · split
      · exact Nat.zero_le _
      · exact h
    · exact h
  · exact Nat.zero_le _
set_option maxRecDepth 100000 in
set_option maxHeartbeats 4000000 in
theorem walk0 (hd : DrawsTake) (a0 : Option Addr) (len0 cap0 : Nat) (z0 : List Int) (w : World) (w0 : IsRow .u8 w a0 len0 cap0 z0) :
    Calls Try.prog 4 #[.slice a0 len0 cap0] w fun e w' => e = .returned (.bool true) ∧ Below w.heap.size w w' := by
  have hl0 := w0.len_le
  have HR : Hid (BytesAt w a0 len0 z0 ∧ DrawsTake) := ⟨w0.bytesAt, hd⟩
  clear w0 hd
  by_cases hg : 1048576 < len0
  · have hg' : (1048576 : Int) < (len0 : Int) := by omega
    clear HR
    go_enter Try.func4, Try.ntmps4
    go_wp2
    go_ret
    exact ⟨rfl, Below.refl _ _⟩
  have hg' : (len0 : Int) ≤ 1048576 := by omega
  go_enter Try.func4, Try.ntmps4
  go_wp2_with fail
  refine (HR.out.2 a0 len0 cap0 z0 _ (by omega) HR.out.1).mono ?_
  rintro e w1 ⟨p, v, k, c, rfl, hp, hf, hb1⟩
  clear HR
  obtain ⟨Av, Cv, rfl⟩ := hp.ls.val
  obtain ⟨q, kd, sn, cd, ht⟩ : ∃ q kd sn cd, takeT p k c = ⟨q, kd, sn, cd⟩ := ⟨_, _, _, _, rfl⟩
  have HT : Hid (takeT p k c = ⟨q, kd, sn, cd⟩) := ht
  have hqn : q.name.size ≤ 9223372036854775807 := by have := takeT_name (k := k) (c := c) hp.z_name; rw [ht] at this; exact this
  have CS : Hid (∀ (v : Value) (w : World), RPt w v p → Fair v → Calls Try.prog 9 #[.agg #[.string p.name, .int .i64 p.low, .int .i64 p.next, v], .int .i64 k, .int .i64 c] w fun e w' => ∃ u, e = .returned ((⟨q, kd, sn, cd⟩ : Tk).val u) ∧ Fair u ∧ RowSn w' u q.seen ∧ Below w.heap.size w w') := by
    intro v w h hv
    have := take_spec p v k c w h hv
    rw [ht] at this
    exact this
  have CM : Hid (∀ (v : Value) (w : World), RPt w v p → Calls Try.prog 10 #[.agg #[.string p.name, .int .i64 p.low, .int .i64 p.next, v], .int .i64 k, .int .i64 c] w fun e w' => ∃ u b, e = .returned ((⟨q, kd, sn, cd⟩ : Tk).val u) ∧ w.heap.size ≤ b ∧ LSn b w' u q.seen ∧ Below w.heap.size w w') := by
    intro v w h
    have := take_impl p v k c w h
    rw [ht] at this
    exact this
  clear ht
  have bA : Below w1.heap.size w1 (w1.alloc (.cells #[.string p.name, .int .i64 p.low, .int .i64 p.next, (.slice Av p.seen.length Cv)] 30)) := (Below.refl _ _).alloc (Nat.le_refl _) _
  have hX : (w1.alloc (.cells #[.string p.name, .int .i64 p.low, .int .i64 p.next, (.slice Av p.seen.length Cv)] 30)).heap[w1.heap.size]? = some (.cells #[.string p.name, .int .i64 p.low, .int .i64 p.next, (.slice Av p.seen.length Cv)] 30) := World.alloc_heap_new w1 _
  have bW : Below w.heap.size w (w1.alloc (.cells #[.string p.name, .int .i64 p.low, .int .i64 p.next, (.slice Av p.seen.length Cv)] 30)) := hb1.trans (bA.mono hb1.size)
  have hpA := hp.below bA
  clear hp hb1 bA
  go_wp2_with fail
  refine (CS.out _ _ hpA hf).mono ?_
  rintro e w2 ⟨u2, rfl, _, hr2, hb2⟩
  clear CS hf
  obtain ⟨A2, C2, rfl⟩ := hr2.val
  clear hr2
  simp only [Tk.val]
  have bB : Below w2.heap.size w2 (w2.alloc (.cells #[.string q.name, .int .i64 q.low, .int .i64 q.next, (.slice A2 q.seen.length C2), .int .i64 kd, .int .i64 sn.number, .int .i64 sn.answer, .int .i64 sn.code, .int .i64 cd] 36)) := (Below.refl _ _).alloc (Nat.le_refl _) _
  have hY : (w2.alloc (.cells #[.string q.name, .int .i64 q.low, .int .i64 q.next, (.slice A2 q.seen.length C2), .int .i64 kd, .int .i64 sn.number, .int .i64 sn.answer, .int .i64 sn.code, .int .i64 cd] 36)).heap[w2.heap.size]? = some (.cells #[.string q.name, .int .i64 q.low, .int .i64 q.next, (.slice A2 q.seen.length C2), .int .i64 kd, .int .i64 sn.number, .int .i64 sn.answer, .int .i64 sn.code, .int .i64 cd] 36) := World.alloc_heap_new w2 _
  have hb2B := hb2.trans (bB.mono hb2.size)
  have hX2 : (w2.alloc (.cells #[.string q.name, .int .i64 q.low, .int .i64 q.next, (.slice A2 q.seen.length C2), .int .i64 kd, .int .i64 sn.number, .int .i64 sn.answer, .int .i64 sn.code, .int .i64 cd] 36)).heap[w1.heap.size]? = some (.cells #[.string p.name, .int .i64 p.low, .int .i64 p.next, (.slice Av p.seen.length Cv)] 30) := (hb2B.block _ (by simp)).trans hX
  have bW2 : Below w.heap.size w (w2.alloc (.cells #[.string q.name, .int .i64 q.low, .int .i64 q.next, (.slice A2 q.seen.length C2), .int .i64 kd, .int .i64 sn.number, .int .i64 sn.answer, .int .i64 sn.code, .int .i64 cd] 36)) := bW.trans (hb2B.mono bW.size)
  have hpB := hpA.below hb2B
  clear hX bW hpA hb2 bB hb2B
  have x0 : (w2.alloc (.cells #[.string q.name, .int .i64 q.low, .int .i64 q.next, (.slice A2 q.seen.length C2), .int .i64 kd, .int .i64 sn.number, .int .i64 sn.answer, .int .i64 sn.code, .int .i64 cd] 36)).cell? ⟨w1.heap.size, 0, none⟩ = some (.string p.name) := by simp [World.cell?, hX2]
  have x1 : (w2.alloc (.cells #[.string q.name, .int .i64 q.low, .int .i64 q.next, (.slice A2 q.seen.length C2), .int .i64 kd, .int .i64 sn.number, .int .i64 sn.answer, .int .i64 sn.code, .int .i64 cd] 36)).cell? ⟨w1.heap.size, 1, none⟩ = some (.int .i64 p.low) := by simp [World.cell?, hX2]
  have x2 : (w2.alloc (.cells #[.string q.name, .int .i64 q.low, .int .i64 q.next, (.slice A2 q.seen.length C2), .int .i64 kd, .int .i64 sn.number, .int .i64 sn.answer, .int .i64 sn.code, .int .i64 cd] 36)).cell? ⟨w1.heap.size, 2, none⟩ = some (.int .i64 p.next) := by simp [World.cell?, hX2]
  have x3 : (w2.alloc (.cells #[.string q.name, .int .i64 q.low, .int .i64 q.next, (.slice A2 q.seen.length C2), .int .i64 kd, .int .i64 sn.number, .int .i64 sn.answer, .int .i64 sn.code, .int .i64 cd] 36)).cell? ⟨w1.heap.size, 3, none⟩ = some (.slice Av p.seen.length Cv) := by simp [World.cell?, hX2]
  go_wp2_with fail
  refine (CM.out _ _ hpB).mono ?_
  rintro e w3 ⟨u3, b3, rfl, _, hL3, hb3⟩
  have hr3 := hL3.row
  clear CM hL3 x0 x1 x2 x3
  obtain ⟨A3, C3, rfl⟩ := hr3.val
  simp only [Tk.val]
  have bC : Below w3.heap.size w3 (w3.alloc (.cells #[.string q.name, .int .i64 q.low, .int .i64 q.next, (.slice A3 q.seen.length C3), .int .i64 kd, .int .i64 sn.number, .int .i64 sn.answer, .int .i64 sn.code, .int .i64 cd] 36)) := (Below.refl _ _).alloc (Nat.le_refl _) _
  have hZ3 : (w3.alloc (.cells #[.string q.name, .int .i64 q.low, .int .i64 q.next, (.slice A3 q.seen.length C3), .int .i64 kd, .int .i64 sn.number, .int .i64 sn.answer, .int .i64 sn.code, .int .i64 cd] 36)).heap[w3.heap.size]? = some (.cells #[.string q.name, .int .i64 q.low, .int .i64 q.next, (.slice A3 q.seen.length C3), .int .i64 kd, .int .i64 sn.number, .int .i64 sn.answer, .int .i64 sn.code, .int .i64 cd] 36) := World.alloc_heap_new w3 _
  have hb3C := hb3.trans (bC.mono hb3.size)
  have hX3 : (w3.alloc (.cells #[.string q.name, .int .i64 q.low, .int .i64 q.next, (.slice A3 q.seen.length C3), .int .i64 kd, .int .i64 sn.number, .int .i64 sn.answer, .int .i64 sn.code, .int .i64 cd] 36)).heap[w1.heap.size]? = some (.cells #[.string p.name, .int .i64 p.low, .int .i64 p.next, (.slice Av p.seen.length Cv)] 30) := (hb3C.block _ (Array.getElem?_eq_some_iff.1 hX2).1).trans hX2
  have hY3 : (w3.alloc (.cells #[.string q.name, .int .i64 q.low, .int .i64 q.next, (.slice A3 q.seen.length C3), .int .i64 kd, .int .i64 sn.number, .int .i64 sn.answer, .int .i64 sn.code, .int .i64 cd] 36)).heap[w2.heap.size]? = some (.cells #[.string q.name, .int .i64 q.low, .int .i64 q.next, (.slice A2 q.seen.length C2), .int .i64 kd, .int .i64 sn.number, .int .i64 sn.answer, .int .i64 sn.code, .int .i64 cd] 36) := (hb3C.block _ (by simp)).trans hY
  have bW3 : Below w.heap.size w (w3.alloc (.cells #[.string q.name, .int .i64 q.low, .int .i64 q.next, (.slice A3 q.seen.length C3), .int .i64 kd, .int .i64 sn.number, .int .i64 sn.answer, .int .i64 sn.code, .int .i64 cd] 36)) := bW2.trans (hb3C.mono bW2.size)
  have hp3 := hpB.below hb3C
  have hq3 : RPt (w3.alloc (.cells #[.string q.name, .int .i64 q.low, .int .i64 q.next, (.slice A3 q.seen.length C3), .int .i64 kd, .int .i64 sn.number, .int .i64 sn.answer, .int .i64 sn.code, .int .i64 cd] 36)) (.slice A3 q.seen.length C3) q := ⟨hr3.below bC, hqn⟩
  clear hX2 hY bW2 hpB hb3 bC hb3C hr3
  have x0 : (w3.alloc (.cells #[.string q.name, .int .i64 q.low, .int .i64 q.next, (.slice A3 q.seen.length C3), .int .i64 kd, .int .i64 sn.number, .int .i64 sn.answer, .int .i64 sn.code, .int .i64 cd] 36)).cell? ⟨w1.heap.size, 0, none⟩ = some (.string p.name) := by simp [World.cell?, hX3]
  have x1 : (w3.alloc (.cells #[.string q.name, .int .i64 q.low, .int .i64 q.next, (.slice A3 q.seen.length C3), .int .i64 kd, .int .i64 sn.number, .int .i64 sn.answer, .int .i64 sn.code, .int .i64 cd] 36)).cell? ⟨w1.heap.size, 1, none⟩ = some (.int .i64 p.low) := by simp [World.cell?, hX3]
  have x2 : (w3.alloc (.cells #[.string q.name, .int .i64 q.low, .int .i64 q.next, (.slice A3 q.seen.length C3), .int .i64 kd, .int .i64 sn.number, .int .i64 sn.answer, .int .i64 sn.code, .int .i64 cd] 36)).cell? ⟨w1.heap.size, 2, none⟩ = some (.int .i64 p.next) := by simp [World.cell?, hX3]
  have x3 : (w3.alloc (.cells #[.string q.name, .int .i64 q.low, .int .i64 q.next, (.slice A3 q.seen.length C3), .int .i64 kd, .int .i64 sn.number, .int .i64 sn.answer, .int .i64 sn.code, .int .i64 cd] 36)).cell? ⟨w1.heap.size, 3, none⟩ = some (.slice Av p.seen.length Cv) := by simp [World.cell?, hX3]
  have y4 : (w3.alloc (.cells #[.string q.name, .int .i64 q.low, .int .i64 q.next, (.slice A3 q.seen.length C3), .int .i64 kd, .int .i64 sn.number, .int .i64 sn.answer, .int .i64 sn.code, .int .i64 cd] 36)).cell? ⟨w2.heap.size, 4, none⟩ = some (.int .i64 kd) := by simp [World.cell?, hY3]
  have y8 : (w3.alloc (.cells #[.string q.name, .int .i64 q.low, .int .i64 q.next, (.slice A3 q.seen.length C3), .int .i64 kd, .int .i64 sn.number, .int .i64 sn.answer, .int .i64 sn.code, .int .i64 cd] 36)).cell? ⟨w2.heap.size, 8, none⟩ = some (.int .i64 cd) := by simp [World.cell?, hY3]
  have z0 : (w3.alloc (.cells #[.string q.name, .int .i64 q.low, .int .i64 q.next, (.slice A3 q.seen.length C3), .int .i64 kd, .int .i64 sn.number, .int .i64 sn.answer, .int .i64 sn.code, .int .i64 cd] 36)).cell? ⟨w3.heap.size, 0, none⟩ = some (.string q.name) := by simp [go_sem]
  have z1 : (w3.alloc (.cells #[.string q.name, .int .i64 q.low, .int .i64 q.next, (.slice A3 q.seen.length C3), .int .i64 kd, .int .i64 sn.number, .int .i64 sn.answer, .int .i64 sn.code, .int .i64 cd] 36)).cell? ⟨w3.heap.size, 1, none⟩ = some (.int .i64 q.low) := by simp [go_sem]
  have z2 : (w3.alloc (.cells #[.string q.name, .int .i64 q.low, .int .i64 q.next, (.slice A3 q.seen.length C3), .int .i64 kd, .int .i64 sn.number, .int .i64 sn.answer, .int .i64 sn.code, .int .i64 cd] 36)).cell? ⟨w3.heap.size, 2, none⟩ = some (.int .i64 q.next) := by simp [go_sem]
  have z3 : (w3.alloc (.cells #[.string q.name, .int .i64 q.low, .int .i64 q.next, (.slice A3 q.seen.length C3), .int .i64 kd, .int .i64 sn.number, .int .i64 sn.answer, .int .i64 sn.code, .int .i64 cd] 36)).cell? ⟨w3.heap.size, 3, none⟩ = some (.slice A3 q.seen.length C3) := by simp [go_sem]
  have z4 : (w3.alloc (.cells #[.string q.name, .int .i64 q.low, .int .i64 q.next, (.slice A3 q.seen.length C3), .int .i64 kd, .int .i64 sn.number, .int .i64 sn.answer, .int .i64 sn.code, .int .i64 cd] 36)).cell? ⟨w3.heap.size, 4, none⟩ = some (.int .i64 kd) := by simp [go_sem]
  have z8 : (w3.alloc (.cells #[.string q.name, .int .i64 q.low, .int .i64 q.next, (.slice A3 q.seen.length C3), .int .i64 kd, .int .i64 sn.number, .int .i64 sn.answer, .int .i64 sn.code, .int .i64 cd] 36)).cell? ⟨w3.heap.size, 8, none⟩ = some (.int .i64 cd) := by simp [go_sem]
  by_cases hc0 : cd = 0
  · subst hc0
    by_cases hk1 : kd = 1
    · subst hk1
      have htw : ptnB q = true ∧ askZ q k = 2 ∧ takeT q k 0 = ⟨q, 2, ⟨k, p.next, c⟩, 0⟩ := by
        obtain ⟨g1, g2, g3⟩ := takeT_new_of (p := p) (k := k) (c := c) (by rw [HT.out]) (by rw [HT.out])
        obtain ⟨f1, f2, f3, f4⟩ := take_twice g1 g2 g3
        rw [HT.out] at f1
        simp only [Tk.mk.injEq] at f1
        obtain ⟨rfl, _⟩ := f1
        exact ⟨f2, f3, f4⟩
      have HW : Hid (Below w.heap.size w (w3.alloc (.cells #[.string q.name, .int .i64 q.low, .int .i64 q.next, (.slice A3 q.seen.length C3), .int .i64 1, .int .i64 sn.number, .int .i64 sn.answer, .int .i64 sn.code, .int .i64 0] 36)) ∧ RPt (w3.alloc (.cells #[.string q.name, .int .i64 q.low, .int .i64 q.next, (.slice A3 q.seen.length C3), .int .i64 1, .int .i64 sn.number, .int .i64 sn.answer, .int .i64 sn.code, .int .i64 0] 36)) (.slice A3 q.seen.length C3) q ∧ (w3.alloc (.cells #[.string q.name, .int .i64 q.low, .int .i64 q.next, (.slice A3 q.seen.length C3), .int .i64 1, .int .i64 sn.number, .int .i64 sn.answer, .int .i64 sn.code, .int .i64 0] 36)).heap[w1.heap.size]? = some (.cells #[.string p.name, .int .i64 p.low, .int .i64 p.next, (.slice Av p.seen.length Cv)] 30) ∧ (w3.alloc (.cells #[.string q.name, .int .i64 q.low, .int .i64 q.next, (.slice A3 q.seen.length C3), .int .i64 1, .int .i64 sn.number, .int .i64 sn.answer, .int .i64 sn.code, .int .i64 0] 36)).heap[w3.heap.size]? = some (.cells #[.string q.name, .int .i64 q.low, .int .i64 q.next, (.slice A3 q.seen.length C3), .int .i64 1, .int .i64 sn.number, .int .i64 sn.answer, .int .i64 sn.code, .int .i64 0] 36)) := ⟨bW3, hq3, hX3, hZ3⟩
      have HQ : Hid (ptnB q = true ∧ askZ q k = 2 ∧ takeT q k 0 = ⟨q, 2, ⟨k, p.next, c⟩, 0⟩) := htw
      have CT : Hid (∀ (v : Value) (w : World), RPt w v q → Calls Try.prog 10 #[.agg #[.string q.name, .int .i64 q.low, .int .i64 q.next, v], .int .i64 k, .int .i64 0] w fun e w' => ∃ u b, e = .returned ((⟨q, 2, ⟨k, p.next, c⟩, 0⟩ : Tk).val u) ∧ w.heap.size ≤ b ∧ LSn b w' u q.seen ∧ Below w.heap.size w w') := by
        intro v w h
        have := take_impl q v k 0 w h
        rw [htw.2.2] at this
        exact this
      clear bW3 hq3 hp3 hX3 hY3 hZ3 htw
      go_wp2_with fail
      refine (CT.out _ _ HW.out.2.1).mono ?_
      rintro e w4 ⟨u4, b4, rfl, _, hL4, hb4⟩
      have hr4 := hL4.row
      clear CT hL4 x0 x1 x2 x3 y4 y8 z0 z1 z2 z3 z4 z8
      obtain ⟨A4, C4, rfl⟩ := hr4.val
      simp only [Tk.val]
      obtain ⟨W5, hW5⟩ : ∃ W5, w4.alloc (.cells #[.string q.name, .int .i64 q.low, .int .i64 q.next, (.slice A4 q.seen.length C4), .int .i64 2, .int .i64 k, .int .i64 p.next, .int .i64 c, .int .i64 0] 36) = W5 := ⟨_, rfl⟩
      have bD : Below w4.heap.size w4 W5 := by rw [← hW5]; exact (Below.refl _ _).alloc (Nat.le_refl _) _
      have hV : W5.heap[w4.heap.size]? = some (.cells #[.string q.name, .int .i64 q.low, .int .i64 q.next, (.slice A4 q.seen.length C4), .int .i64 2, .int .i64 k, .int .i64 p.next, .int .i64 c, .int .i64 0] 36) := by rw [← hW5]; exact World.alloc_heap_new w4 _
      have hb45 := hb4.trans (bD.mono hb4.size)
      have hX5 : W5.heap[w1.heap.size]? = some (.cells #[.string p.name, .int .i64 p.low, .int .i64 p.next, (.slice Av p.seen.length Cv)] 30) := (hb45.block _ (Array.getElem?_eq_some_iff.1 HW.out.2.2.1).1).trans HW.out.2.2.1
      have hZ5 : W5.heap[w3.heap.size]? = some (.cells #[.string q.name, .int .i64 q.low, .int .i64 q.next, (.slice A3 q.seen.length C3), .int .i64 1, .int .i64 sn.number, .int .i64 sn.answer, .int .i64 sn.code, .int .i64 0] 36) := (hb45.block _ (by simp)).trans HW.out.2.2.2
      have hq5 := HW.out.2.1.below hb45
      have hr5 : RPt W5 (.slice A4 q.seen.length C4) q := ⟨hr4.below bD, hqn⟩
      have bW5 : Below w.heap.size w W5 := HW.out.1.trans (hb45.mono HW.out.1.size)
      have HW5 : Hid (w4.alloc (.cells #[.string q.name, .int .i64 q.low, .int .i64 q.next, (.slice A4 q.seen.length C4), .int .i64 2, .int .i64 k, .int .i64 p.next, .int .i64 c, .int .i64 0] 36) = W5) := hW5
      clear hW5 bD hb45 hb4 hr4 HW
      go_upto_region 11 with fail
      rw [HW5.out]
      clear HW5
      have z0 : W5.cell? ⟨w3.heap.size, 0, none⟩ = some (.string q.name) := by simp [World.cell?, hZ5]
      have z1 : W5.cell? ⟨w3.heap.size, 1, none⟩ = some (.int .i64 q.low) := by simp [World.cell?, hZ5]
      have z2 : W5.cell? ⟨w3.heap.size, 2, none⟩ = some (.int .i64 q.next) := by simp [World.cell?, hZ5]
      have z3 : W5.cell? ⟨w3.heap.size, 3, none⟩ = some (.slice A3 q.seen.length C3) := by simp [World.cell?, hZ5]
      go_wp2_with fail
      refine (ptRight_impl q _ _ hq5).mono ?_
      rintro e w6 ⟨rfl, hb6⟩
      rw [HQ.out.1]
      have hX6 := (hb6.block _ (Array.getElem?_eq_some_iff.1 hX5).1).trans hX5
      have hZ6 := (hb6.block _ (Array.getElem?_eq_some_iff.1 hZ5).1).trans hZ5
      have hV6 := (hb6.block _ (Array.getElem?_eq_some_iff.1 hV).1).trans hV
      have hq6 := hq5.below hb6
      have hr6 := hr5.below hb6
      have bW6 := bW5.trans (hb6.mono bW5.size)
      clear hX5 hZ5 hV hq5 hr5 bW5 hb6 z0 z1 z2 z3
      have z0 : w6.cell? ⟨w3.heap.size, 0, none⟩ = some (.string q.name) := by simp [World.cell?, hZ6]
      have z1 : w6.cell? ⟨w3.heap.size, 1, none⟩ = some (.int .i64 q.low) := by simp [World.cell?, hZ6]
      have z2 : w6.cell? ⟨w3.heap.size, 2, none⟩ = some (.int .i64 q.next) := by simp [World.cell?, hZ6]
      have z3 : w6.cell? ⟨w3.heap.size, 3, none⟩ = some (.slice A3 q.seen.length C3) := by simp [World.cell?, hZ6]
      go_wp2_with fail
      refine (ptAsk_impl q _ k _ hq6).mono ?_
      rintro e w7 ⟨rfl, hb7⟩
      rw [HQ.out.2.1]
      have hX7 := (hb7.block _ (Array.getElem?_eq_some_iff.1 hX6).1).trans hX6
      have hZ7 := (hb7.block _ (Array.getElem?_eq_some_iff.1 hZ6).1).trans hZ6
      have hV7 := (hb7.block _ (Array.getElem?_eq_some_iff.1 hV6).1).trans hV6
      have hq7 := hq6.below hb7
      have hr7 := hr6.below hb7
      have bW7 := bW6.trans (hb7.mono bW6.size)
      clear hX6 hZ6 hV6 hq6 hr6 bW6 hb7 z0 z1 z2 z3
      have z0 : w7.cell? ⟨w3.heap.size, 0, none⟩ = some (.string q.name) := by simp [World.cell?, hZ7]
      have z1 : w7.cell? ⟨w3.heap.size, 1, none⟩ = some (.int .i64 q.low) := by simp [World.cell?, hZ7]
      have z2 : w7.cell? ⟨w3.heap.size, 2, none⟩ = some (.int .i64 q.next) := by simp [World.cell?, hZ7]
      have z3 : w7.cell? ⟨w3.heap.size, 3, none⟩ = some (.slice A3 q.seen.length C3) := by simp [World.cell?, hZ7]
      have t0 : w7.cell? ⟨w4.heap.size, 0, none⟩ = some (.string q.name) := by simp [World.cell?, hV7]
      have t1 : w7.cell? ⟨w4.heap.size, 1, none⟩ = some (.int .i64 q.low) := by simp [World.cell?, hV7]
      have t2 : w7.cell? ⟨w4.heap.size, 2, none⟩ = some (.int .i64 q.next) := by simp [World.cell?, hV7]
      have t3 : w7.cell? ⟨w4.heap.size, 3, none⟩ = some (.slice A4 q.seen.length C4) := by simp [World.cell?, hV7]
      have t4 : w7.cell? ⟨w4.heap.size, 4, none⟩ = some (.int .i64 2) := by simp [World.cell?, hV7]
      have t5 : w7.cell? ⟨w4.heap.size, 5, none⟩ = some (.int .i64 k) := by simp [World.cell?, hV7]
      have t6 : w7.cell? ⟨w4.heap.size, 6, none⟩ = some (.int .i64 p.next) := by simp [World.cell?, hV7]
      have t7 : w7.cell? ⟨w4.heap.size, 7, none⟩ = some (.int .i64 c) := by simp [World.cell?, hV7]
      have x0 : w7.cell? ⟨w1.heap.size, 0, none⟩ = some (.string p.name) := by simp [World.cell?, hX7]
      have x1 : w7.cell? ⟨w1.heap.size, 1, none⟩ = some (.int .i64 p.low) := by simp [World.cell?, hX7]
      have x2 : w7.cell? ⟨w1.heap.size, 2, none⟩ = some (.int .i64 p.next) := by simp [World.cell?, hX7]
      have x3 : w7.cell? ⟨w1.heap.size, 3, none⟩ = some (.slice Av p.seen.length Cv) := by simp [World.cell?, hX7]
      have hre := run_eql_sn k p.next c
      go_wp2_with fail
      refine (lwPartner_any q _ _ _ hr7 hq7).mono ?_
      rintro e w8 ⟨rfl, hb8⟩
      have HF : Hid (Below w.heap.size w w8) := bW7.trans (hb8.mono bW7.size)
      clear hX7 hZ7 hV7 hq7 hr7 bW7 hb8
      go_wp2
      go_ret
      exact ⟨rfl, HF.out⟩
    · have hk2 : (kd != 1) = true := by simpa using hk1
      have hqp : q = p := by
        have := takeT_same (p := p) (k := k) (c := c) (by rw [HT.out]) (by rw [HT.out]; exact hk1)
        rw [HT.out] at this
        exact this
      subst hqp
      have HW : Hid (Below w.heap.size w (w3.alloc (.cells #[.string q.name, .int .i64 q.low, .int .i64 q.next, (.slice A3 q.seen.length C3), .int .i64 kd, .int .i64 sn.number, .int .i64 sn.answer, .int .i64 sn.code, .int .i64 0] 36))) := bW3
      clear bW3
      go_wp2_with fail
      refine (lwPartner_any q _ _ _ hq3 hp3).mono ?_
      rintro e w8 ⟨rfl, hb8⟩
      have HF : Hid (Below w.heap.size w w8) := HW.out.trans (hb8.mono HW.out.size)
      clear hq3 hp3 hX3 hY3 hZ3 hb8 x0 x1 x2 x3 y4 y8 z0 z1 z2 z3 z4 z8
      go_wp2
      go_ret
      exact ⟨rfl, HF.out⟩
  · have hc1 : (cd != 0) = true := by simpa using hc0
    have HF : Hid (Below w.heap.size w (w3.alloc (.cells #[.string q.name, .int .i64 q.low, .int .i64 q.next, (.slice A3 q.seen.length C3), .int .i64 kd, .int .i64 sn.number, .int .i64 sn.answer, .int .i64 sn.code, .int .i64 cd] 36))) := bW3
    clear bW3 hq3 hp3 hX3 hY3 hZ3
    go_wp2
    go_ret
    exact ⟨rfl, HF.out⟩
end fnTakeOnce
end Go.Proofs.Ytbnjieppcojckaa
