/- Texts of ours put together: PbP, RxB, PiP, PiQ. -/
import Derived.Test.YtkaolpnbddjdpaaGreatDoorG13
import Derived.Test.YtkaolpnbddjdpaaGreatDoorG02
import Derived.Test.YtkaolpnbddjdpaaGreatDoorG19
import Derived.Test.YtkaolpnbddjdpaaGreatDoorG06
import Derived.Test.YtkaolpnbddjdpaaGreatDoorG08
import Derived.Test.YtkaolpnbddjdpaaGreatDoorG14
import Derived.Deep.QuietTactic
import Derived.BigQuiet
import Derived.WalkSmall
namespace Go.Proofs.YtkaolpnbddjdpaaGreatDoor
open Go.ChangeShapes Go.WideShapes Go.ChangeAt Go.RowKit
theorem right_boundsP {tag : ByteArray} {es : List (List ByteArray)} (h : rightG tag es = true) : tag.size = 3 ∧ es.length ≤ 10 ∧ ∀ e ∈ es, 0 < e.length ∧ e.length ≤ 4 ∧ ∀ t ∈ e, t.size ≤ 40 := by
  unfold rightG tagB at h
  simp only [Bool.and_eq_true, decide_eq_true_eq, List.all_eq_true] at h
  refine ⟨h.1.1, h.2.1, fun e he => ?_⟩
  have hb := h.2.2.2 e he
  unfold elB at hb
  simp only [Bool.and_eq_true, decide_eq_true_eq, List.all_eq_true] at hb
  refine ⟨by omega, hb.2.1, fun t ht => ?_⟩
  have := hb.2.2.2 t ht
  unfold partB at this
  simp only [Bool.and_eq_true, decide_eq_true_eq] at this
  exact this.1
theorem papB_ok {p : Pap} (h : papB p = true) : PapOk p := by simpa [papB] using h
end Go.Proofs.YtkaolpnbddjdpaaGreatDoor
namespace Go.Proofs.YtkaolpnbddjdpaaGreatDoor
open Go.ChangeShapes Go.WideShapes Go.ChangeAt Go.RowKit
/-- Bounds of a body. -/
def BdyG (gs : List Seg) : Prop := BdLg gs ∧ gs.length ≤ 2400
theorem OwnM.rowM {N : Nat} {W : World} {v : Value} {ms : List MsgV} (h : OwnM N W v ms) (hX : ∀ x ∈ ms, BdyG x.1.body) (hl : ms.length ≤ 9223372036854775807) : RowM W v (ms.map (·.1)) := by
  refine ⟨?_, by rw [List.length_map]; exact hl⟩
  rcases h.row.2 with ⟨rfl, h0⟩ | ⟨g, cap, cur, rfl, _⟩
  · have : ms = [] := List.eq_nil_of_length_eq_zero h0
    subst this
    exact ⟨none, 0, rfl, fun hn => absurd rfl hn⟩
  · refine ⟨_, _, by rw [List.length_map], fun _ => ⟨g, 0, rfl, fun i r hi => ?_⟩⟩
    rw [List.getElem?_map] at hi
    obtain ⟨x, hx, rfl⟩ := Option.map_eq_some_iff.1 hi
    have hlt := (List.getElem?_eq_some_iff.1 hx).1
    have hm := List.mem_of_getElem? hx
    have key : ∀ (l : List MsgV) (i : Nat) (x : MsgV), l[i]? = some x → (l.flatMap clMv)[i * 2]? = some (.int .i64 x.1.num) ∧ (l.flatMap clMv)[i * 2 + 1]? = some x.2.1 := by
      intro l
      induction l with
      | nil => intro i x h; simp at h
      | cons a r ih =>
        intro i x h
        cases i with
        | zero => simp at h; subst h; simp [clMv]
        | succ j =>
          have := ih j x (by simpa using h)
          simp only [List.flatMap_cons, clMv] at this ⊢
          have e1 : (j + 1) * 2 = (j * 2) + 1 + 1 := by omega
          have e2 : (j + 1) * 2 + 1 = (j * 2 + 1) + 1 + 1 := by omega
          rw [e1]
          simpa using this
    obtain ⟨k1, k2⟩ := key ms i x hx
    refine ⟨x.2.1, ⟨?_, ?_⟩, ⟨(h.body x hm).rowG (hX x hm).1 (hX x hm).2⟩⟩
    · rw [Nat.zero_add, h.row.cellAt _ (by omega)]; exact k1
    · rw [Nat.zero_add, h.row.cellAt _ (by omega)]; exact k2
theorem OwnBs.rowB {N : Nat} {W : World} {v : Value} {bs : List BunV} (h : OwnBs N W v bs) (hX : ∀ x ∈ bs, ∀ m ∈ x.1.msgs, BdyG m.body) (hl : bs.length ≤ 9223372036854775807) (hl2 : ∀ x ∈ bs, x.2.2.length ≤ 9223372036854775807) : RowB W v (bs.map (·.1)) := by
  refine ⟨?_, by rw [List.length_map]; exact hl⟩
  rcases h.row.2 with ⟨rfl, h0⟩ | ⟨g, cap, cur, rfl, _⟩
  · have : bs = [] := List.eq_nil_of_length_eq_zero h0
    subst this
    exact ⟨none, 0, rfl, fun hn => absurd rfl hn⟩
  · refine ⟨_, _, by rw [List.length_map], fun _ => ⟨g, 0, rfl, fun i r hi => ?_⟩⟩
    rw [List.getElem?_map] at hi
    obtain ⟨x, hx, rfl⟩ := Option.map_eq_some_iff.1 hi
    have hlt := (List.getElem?_eq_some_iff.1 hx).1
    have hm := List.mem_of_getElem? hx
    have key : ∀ (l : List BunV) (i : Nat) (x : BunV), l[i]? = some x → (l.flatMap clBv)[i * 3]? = some (.int .i64 x.1.kind) ∧ (l.flatMap clBv)[i * 3 + 1]? = some (.int .i64 x.1.num) ∧ (l.flatMap clBv)[i * 3 + 2]? = some x.2.1 := by
      intro l
      induction l with
      | nil => intro i x h; simp at h
      | cons a r ih =>
        intro i x h
        cases i with
        | zero => simp at h; subst h; simp [clBv]
        | succ j =>
          have := ih j x (by simpa using h)
          simp only [List.flatMap_cons, clBv] at this ⊢
          have e1 : (j + 1) * 3 = (j * 3) + 1 + 1 + 1 := by omega
          rw [e1]
          simpa using this
    obtain ⟨k1, k2, k3⟩ := key bs i x hx
    refine ⟨x.2.1, ⟨?_, ?_, ?_⟩, ⟨?_⟩⟩
    · rw [Nat.zero_add, h.row.cellAt _ (by omega)]; exact k1
    · rw [Nat.zero_add, h.row.cellAt _ (by omega)]; exact k2
    · rw [Nat.zero_add, h.row.cellAt _ (by omega)]; exact k3
    · have hM := h.msgs x hm
      rw [← hM.2]
      refine hM.1.rowM (fun y hy => hX x hm y.1 ?_) (hl2 x hm)
      rw [← hM.2]
      exact List.mem_map_of_mem hy
theorem addB_mem (i : Nat) (q : Pap) : ∀ (bs : List Bun), ∀ b ∈ addB i q bs, ∀ m ∈ b.msgs, m = msgP i q ∨ ∃ c ∈ bs, m ∈ c.msgs
  | [], b, hb, m, hm => by
    simp [addB] at hb
    subst hb
    simp at hm
    exact .inl hm
  | [c], b, hb, m, hm => by
    unfold addB at hb
    split at hb
    · simp at hb
      subst hb
      simp only [List.mem_append, List.mem_singleton] at hm
      rcases hm with hm | hm
      · exact .inr ⟨c, by simp, hm⟩
      · exact .inl hm
    · simp at hb
      rcases hb with rfl | rfl
      · exact .inr ⟨b, by simp, hm⟩
      · simp at hm
        exact .inl hm
  | c :: d :: r, b, hb, m, hm => by
    rw [addB] at hb
    rcases List.mem_cons.1 hb with rfl | hb
    · exact .inr ⟨b, by simp, hm⟩
    · rcases addB_mem i q (d :: r) b hb m hm with h | ⟨x, hx, h⟩
      · exact .inl h
      · exact .inr ⟨x, List.mem_cons_of_mem _ hx, h⟩
theorem buns_body (ps : List Pap) : ∀ b ∈ bunsP ps, ∀ m ∈ b.msgs, ∃ q ∈ ps, m.body = bodyW wordsI q := by
  refine rev_ind (P := fun ps => ∀ b ∈ bunsP ps, ∀ m ∈ b.msgs, ∃ q ∈ ps, m.body = bodyW wordsI q) ?_ ?_ ps
  · intro b hb; simp [bunsP_nil] at hb
  · intro r q ih b hb m hm
    rw [bunsP_snoc] at hb
    rcases addB_mem _ _ _ b hb m hm with rfl | ⟨c, hc, h⟩
    · exact ⟨q, by simp, rfl⟩
    · obtain ⟨q', h1, h2⟩ := ih c hc m h
      exact ⟨q', List.mem_append_left _ h1, h2⟩
theorem msgsN_one {bs : List Bun} {b : Bun} (h : b ∈ bs) : b.msgs.length ≤ msgsN bs := by
  induction bs with
  | nil => cases h
  | cons a r ih =>
    simp only [msgsN]
    rcases List.mem_cons.1 h with rfl | h
    · omega
    · have := ih h; omega
theorem addB_le (i : Nat) (q : Pap) : ∀ bs : List Bun, (addB i q bs).length ≤ bs.length + 1
  | [] => by simp [addB]
  | [b] => by unfold addB; split <;> simp
  | b :: c :: r => by have := addB_le i q (c :: r); simp only [addB, List.length_cons] at this ⊢; omega
theorem bunsP_le (ps : List Pap) : (bunsP ps).length ≤ ps.length := by
  refine rev_ind (P := fun ps => (bunsP ps).length ≤ ps.length) (by simp [bunsP_nil]) ?_ ps
  intro r q ih
  rw [bunsP_snoc, List.length_append]
  have := addB_le r.length q (bunsP r)
  simp only [List.length_singleton]
  omega
/-- A right paper's body is within bounds. -/
theorem pap_body {q : Pap} (h : papB q = true) : BdyG (bodyW wordsI q) := by
  have ho := (papOk_iff q).1 (papB_ok h)
  have hk := papB_ok h
  have e : bodyW wordsS q = bodyW wordsI q := body_eq (note3I hk.sm)
  refine ⟨fun g hg => ?_, ?_⟩
  · have hr := ho.rt g (by rw [e]; exact hg)
    obtain ⟨f1, f2, f3⟩ := right_boundsP hr
    exact ⟨fun e he => ⟨(f3 e he).2.1, (f3 e he).2.2⟩, f2, f1⟩
  · rw [body_len]
    have := ho.nt
    have := ho.ln
    omega
theorem bdyG_bdG {gs : List Seg} (h : BdyG gs) : BdG 1048576 gs := ⟨by have := h.2; omega, fun i g hi => by
  have hg := h.1 g (List.mem_of_getElem? hi)
  refine ⟨by have := hg.2.2; omega, by have := hg.2.1; omega, fun j e he => ?_⟩
  have hx := hg.1 e (List.mem_of_getElem? he)
  exact ⟨by have := hx.1; omega, fun k t ht => by have := hx.2 t (List.mem_of_getElem? ht); omega⟩⟩
/-- The interchange of right papers, read. -/
theorem OwnBs.ri {N : Nat} {W : World} {v : Value} {bs : List BunV} {p : Pcl} (h : OwnBs N W v bs) (hb : bs.map (·.1) = bunsP p.papers) (hq : ∀ q ∈ p.papers, papB q = true) (hB : BdPc 1048576 p) : RI W v (ixP p) ∧ BdI 1048576 (ixP p) := by
  obtain ⟨z1, z2, hBp⟩ := hB
  have hpl := hBp.1
  have hbl := bunsP_le p.papers
  have hlen : bs.length = (bunsP p.papers).length := by rw [← hb, List.length_map]
  have hbody : ∀ b ∈ bunsP p.papers, ∀ m ∈ b.msgs, BdyG m.body := fun b hb' m hm => by
    obtain ⟨q, h1, h2⟩ := buns_body _ b hb' m hm
    rw [h2]
    exact pap_body (hq q h1)
  have hms : ∀ b ∈ bunsP p.papers, b.msgs.length ≤ p.papers.length := fun b hb' => by
    have := msgsN_one hb'
    rw [msgsN_buns] at this
    exact this
  have hmem : ∀ x ∈ bs, x.1 ∈ bunsP p.papers := fun x hx => by rw [← hb]; exact List.mem_map_of_mem hx
  refine ⟨⟨?_, by show p.frm.size ≤ _; omega, by show p.to.size ≤ _; omega⟩, z1, z2, ?_, fun i r hi => ⟨?_, fun j m hj => ?_⟩⟩
  · show RowB W v (bunsP p.papers)
    rw [← hb]
    refine h.rowB (fun x hx m hm => hbody x.1 (hmem x hx) m hm) (by omega) (fun x hx => ?_)
    have h1 := hms x.1 (hmem x hx)
    have h2 := (h.msgs x hx).2
    rw [← h2, List.length_map] at h1
    omega
  · show (bunsP p.papers).length ≤ _
    omega
  · have := hms r (List.mem_of_getElem? hi)
    omega
  · exact bdyG_bdG (hbody r (List.mem_of_getElem? hi) m (List.mem_of_getElem? hj))
end Go.Proofs.YtkaolpnbddjdpaaGreatDoor
namespace Go.Proofs.YtkaolpnbddjdpaaGreatDoor
open Go.ChangeShapes Go.WideShapes Go.ChangeAt Go.RowKit
/-- Has one of them that Item? -/
def itmB (ls : List Ln) (t : ByteArray) : Bool := ls.any fun l => l.item.toList == t.toList
theorem itmB_no {ls : List Ln} {t : ByteArray} (h : ∀ (i : Nat) (l : Ln), ls[i]? = some l → (l.item.toList == t.toList) = false) : itmB ls t = false := by
  unfold itmB
  rw [List.any_eq_false]
  intro l hl
  obtain ⟨i, hi⟩ := List.getElem?_of_mem hl
  rw [h i l hi]
  simp
theorem itmB_yes {ls : List Ln} {t : ByteArray} {i : Nat} {l : Ln} (hi : ls[i]? = some l) (h : (l.item.toList == t.toList) = true) : itmB ls t = true := by
  unfold itmB
  rw [List.any_eq_true]
  exact ⟨l, List.mem_of_getElem? hi, h⟩
theorem ba_of_list {a b : ByteArray} (h : (a.toList == b.toList) = true) : a = b := by
  have := beq_iff_eq.1 h
  rw [ByteArray.toList_eq, ByteArray.toList_eq] at this
  obtain ⟨⟨x⟩⟩ := a
  obtain ⟨⟨y⟩⟩ := b
  simp at this
  rw [this]
set_option maxHeartbeats 4000000 in
theorem hasItem_any (v : Value) (ls : List Ln) (t : ByteArray) (w : World) (h : RowL w v ls) : Calls Tryz.prog 179 #[v, .string t] w fun e w' => e = .returned (.bool (itmB ls t)) ∧ Below w.heap.size w w' := by
  have hlen := h.len
  obtain ⟨A, C, rfl⟩ := h.val
  have H0 : Hid (RowL w (.slice A ls.length C) ls) := h
  clear h
  go_enter Tryz.func179, Tryz.ntmps179
  go_wp2_with fail
  go_loopw [9] (fun i wr => ∃ k : Nat, i = .int .i64 (k : Int) ∧ k ≤ ls.length ∧ (∀ (i : Nat) (l : Ln), i < k → ls[i]? = some l → (l.item.toList == t.toList) = false) ∧ Below w.heap.size w wr) (fun i _ => ls.length - (intOf i).toNat)
  case atStart => exact ⟨0, rfl, by omega, fun i l hi => by omega, Below.refl _ _⟩
  case round =>
    obtain ⟨k, rfl, hk, hA, hb⟩ := hrel
    have HA : Hid ((∀ (i : Nat) (l : Ln), i < k → ls[i]? = some l → (l.item.toList == t.toList) = false) ∧ Below w.heap.size w wr) := ⟨hA, hb⟩
    clear hA
    by_cases hlt : k < ls.length
    · have hlt' : (k : Int) < (ls.length : Int) := by omega
      obtain ⟨b, o, cap', l, e, hs, hat, hz1, _⟩ := (H0.out.below hb).at hlt
      simp only [Value.slice.injEq, true_and] at e
      obtain ⟨rfl, rfl⟩ := e
      obtain ⟨q0, q1, q2, q3, q4⟩ := hat
      have HS : Hid (ls[k]? = some l ∧ Below w.heap.size w (wr.alloc (.cells #[.int .i64 l.no, .string l.item, .int .i64 l.qty, .int .i64 l.money, .string l.note] 121))) := ⟨hs, hb.alloc hb.size _⟩
      clear hs hb
      cases he : (l.item.toList == t.toList) with
      | true =>
        have HT : Hid (itmB ls t = true) := itmB_yes HS.out.1 he
        go_wp2
        go_ret
        exact ⟨by rw [HT.out]; rfl, HS.out.2⟩
      | false =>
        go_wp2
        go_roundw
        case rel =>
          refine ⟨k + 1, by go_num, by omega, fun i m hi hm => ?_, HS.out.2⟩
          rcases Nat.lt_or_ge i k with q | q
          · exact HA.out.1 i m q hm
          · obtain rfl : i = k := by omega
            rw [HS.out.1] at hm
            cases hm
            exact he
        case measure => simp [intOf]; omega
    · obtain rfl : k = ls.length := by omega
      have HT : Hid (itmB ls t = false) := itmB_no fun i l hi => HA.out.1 i l (List.getElem?_eq_some_iff.1 hi).1 hi
      clear hb
      go_wp2
      go_ret
      exact ⟨by rw [HT.out]; rfl, HA.out.2⟩
end Go.Proofs.YtkaolpnbddjdpaaGreatDoor
namespace Go.Proofs.YtkaolpnbddjdpaaGreatDoor
open Go.ChangeShapes Go.WideShapes Go.ChangeAt Go.RowKit
theorem RowL.takeL {W : World} {A : Option Addr} {C : Nat} {ls : List Ln} (h : RowL W (.slice A ls.length C) ls) (k cap : Nat) (hk : k ≤ ls.length) : RowL W (.slice A k cap) (ls.take k) := by
  have hl : (ls.take k).length = k := by rw [List.length_take]; omega
  obtain ⟨a, c, e, hc⟩ := h.shape
  simp only [Value.slice.injEq, true_and] at e
  obtain ⟨rfl, rfl⟩ := e
  have hget : ∀ (i : Nat) (g : Ln), (ls.take k)[i]? = some g → ls[i]? = some g := fun i g hi => by
    have hlt := (List.getElem?_eq_some_iff.1 hi).1
    rwa [List.getElem?_take_of_lt (by omega)] at hi
  refine ⟨⟨A, cap, by rw [hl], fun hn => ?_⟩, by have := h.len; omega, fun i g hi => h.sizes i g (hget i g hi)⟩
  obtain ⟨b, o, ea, hcell⟩ := hc (fun e => hn (by rw [e]; simp))
  exact ⟨b, o, ea, fun i g hi => hcell i g (hget i g hi)⟩
/-- The No ahead of place k. -/
def lastN (ls : List Ln) (k : Nat) : Int := if k = 0 then 0 else ((ls[k - 1]?).map Ln.no).getD 0
theorem lastN_next {ls : List Ln} {k : Nat} {l : Ln} (h : ls[k]? = some l) : lastN ls (k + 1) = l.no := by
  unfold lastN
  rw [if_neg (by omega), Nat.add_sub_cancel, h]
  rfl
theorem badL_iff {r o : Bool} {ls : List Ln} {k : Nat} {l : Ln} (h : ls[k]? = some l) : badL r o ls k ↔ (r = true ∧ (l.no ≤ lastN ls k ∨ 999 < l.no)) ∨ (o = true ∧ itmB (ls.take k) l.item = true) := by
  unfold badL lastN
  constructor
  · rintro ⟨m, hm, q⟩
    rw [h] at hm
    cases hm
    rcases q with q | ⟨q1, j, m, hj, hm, he⟩
    · exact .inl q
    · exact .inr ⟨q1, itmB_yes (i := j) (l := m) (by rw [List.getElem?_take_of_lt hj]; exact hm) (by rw [he]; simp)⟩
  · rintro (q | ⟨q1, q2⟩)
    · exact ⟨l, h, .inl q⟩
    · refine ⟨l, h, .inr ⟨q1, ?_⟩⟩
      unfold itmB at q2
      rw [List.any_eq_true] at q2
      obtain ⟨m, hm, he⟩ := q2
      obtain ⟨j, hj⟩ := List.getElem?_of_mem hm
      have hlt := (List.getElem?_eq_some_iff.1 hj).1
      rw [List.length_take] at hlt
      rw [List.getElem?_take_of_lt (by omega)] at hj
      exact ⟨j, m, by omega, hj, ba_of_list he⟩
/-- What outOfPlace tells. -/
def OopOut (k : Int) (ls : List Ln) (w : World) (e : Ending) (w' : World) : Prop := ∃ r : Int, e = .returned (.int .i64 r) ∧ ((r = -1 ∧ PlcOk k ls) ∨ (0 ≤ r ∧ r ≤ 100 ∧ ¬ PlcOk k ls)) ∧ Below w.heap.size w w'
set_option maxRecDepth 20000 in
set_option maxHeartbeats 8000000 in
theorem outOfPlace_any (q : Pap) (un ul : Value) (w : World) (hk : 1 ≤ q.kind ∧ q.kind ≤ 7) (h : PapR w un ul q) (hc : CapL ul q.lines.length) (hl : q.lines.length ≤ 20) :
    Calls Tryz.prog 156 #[.agg #[.int .i64 q.kind, .string q.ref, .string q.other, .int .i64 q.day, un, ul]] w fun e w' => OopOut q.kind q.lines w e w' := by
  obtain ⟨A, C, rfl, hlC, hCm⟩ := hc
  obtain ⟨W0, hW0⟩ : ∃ W0, w.alloc (.cells #[.int .i64 q.kind, .string q.ref, .string q.other, .int .i64 q.day, un, .slice A q.lines.length C] 66) = W0 := ⟨_, rfl⟩
  have hb0 : Below w.heap.size w W0 := by rw [← hW0]; exact (Below.refl _ _).alloc (Nat.le_refl _) _
  have hbx : W0.heap[w.heap.size]? = some (.cells #[.int .i64 q.kind, .string q.ref, .string q.other, .int .i64 q.day, un, .slice A q.lines.length C] 66) := by rw [← hW0]; exact World.alloc_heap_new _ _
  have HX : Hid (∀ W, Below W0.heap.size W0 W → W.cell? ⟨w.heap.size, 0, none⟩ = some (.int .i64 q.kind) ∧ W.cell? ⟨w.heap.size, 5, none⟩ = some (.slice A q.lines.length C)) := fun W hW => by
    obtain ⟨z0, z1, z2, z3, z4, z5⟩ := pbox ((hW.block _ (Array.getElem?_eq_some_iff.1 hbx).1).trans hbx)
    exact ⟨z0, z5⟩
  have HR : Hid (RowL W0 (.slice A q.lines.length C) q.lines ∧ Below w.heap.size w W0) := ⟨h.ls.below hb0, hb0⟩
  obtain ⟨r, hr⟩ : ∃ r, r = risB q.kind := ⟨_, rfl⟩
  obtain ⟨o, ho⟩ : ∃ o, o = oncB q.kind := ⟨_, rfl⟩
  have QR := rulesOf_any q.kind
  rw [← hr, ← ho] at QR
  have HP : Hid ((∀ ls, PlcOk q.kind ls ↔ ∀ i, ¬ badL r o ls i)) := fun ls => by unfold PlcOk; rw [hr, ho]
  obtain ⟨c0, c5⟩ := HX.out W0 (Below.refl _ _)
  obtain ⟨ls, hls⟩ : ∃ ls, ls = q.lines := ⟨_, rfl⟩
  rw [← hls] at HR HX c5 hl hlC ⊢
  go_enter Tryz.func156, Tryz.ntmps156
  go_upto_region 1 with fail
  try rw [hls]
  try rw [hW0]
  try rw [← hls]
  clear hW0 hbx hb0 h hls hr ho
  go_wp2_with fail
  refine (paperKindOf_any q.kind _ hk).mono ?_
  rintro e W0 ⟨rfl, rfl⟩
  go_wp2_with fail
  refine (QR _ hk).mono ?_
  rintro e W0 ⟨rfl, rfl⟩
  clear QR
  go_wp2_with fail
  go_loopw [5, 18] (fun z i wr => ∃ k : Nat, i = .int .i64 (k : Int) ∧ z = .int .i64 (lastN ls k) ∧ k ≤ ls.length ∧ (∀ i, i < k → ¬ badL r o ls i) ∧ Below W0.heap.size W0 wr) (fun _ i _ => ls.length - (intOf i).toNat)
  case atStart => exact ⟨0, rfl, rfl, by omega, fun i hi => by omega, Below.refl _ _⟩
  case round =>
    obtain ⟨k, rfl, rfl, hkl, hA, hb⟩ := hrel
    obtain ⟨z, hz⟩ : ∃ z, z = lastN ls k := ⟨_, rfl⟩
    rw [← hz]
    have HA : Hid ((∀ i, i < k → ¬ badL r o ls i) ∧ Below W0.heap.size W0 wr ∧ z = lastN ls k) := ⟨hA, hb, hz⟩
    clear hA hz c0 c5
    by_cases hlt : k < ls.length
    · have hlt' : (k : Int) < (ls.length : Int) := by omega
      obtain ⟨b, of, cap', l, e, hs, hat, hz1, _⟩ := (HR.out.1.below hb).at hlt
      simp only [Value.slice.injEq, true_and] at e
      obtain ⟨rfl, rfl⟩ := e
      obtain ⟨q0, q1, q2, q3, q4⟩ := hat
      have b1 : Below wr.heap.size wr (wr.alloc (.cells #[.int .i64 l.no, .string l.item, .int .i64 l.qty, .int .i64 l.money, .string l.note] 121)) := (Below.refl _ _).alloc (Nat.le_refl _) _
      obtain ⟨W1, hW1⟩ : ∃ W1, (wr.alloc (.cells #[.int .i64 l.no, .string l.item, .int .i64 l.qty, .int .i64 l.money, .string l.note] 121)) = W1 := ⟨_, rfl⟩
      rw [hW1] at b1
      have y1 : W1.heap[wr.heap.size]? = some (.cells #[.int .i64 l.no, .string l.item, .int .i64 l.qty, .int .i64 l.money, .string l.note] 121) := by rw [← hW1]; exact World.alloc_heap_new _ _
      have bW : Below W0.heap.size W0 W1 := hb.trans (b1.mono hb.size)
      have HS : Hid (ls[k]? = some l ∧ Below W0.heap.size W0 W1 ∧ RowL W1 (.slice (some ⟨b, of, none⟩) ls.length C) ls ∧ W1.heap[wr.heap.size]? = some (.cells #[.int .i64 l.no, .string l.item, .int .i64 l.qty, .int .i64 l.money, .string l.note] 121) ∧ Below w.heap.size w W1) := ⟨hs, bW, HR.out.1.below bW, y1, HR.out.2.trans (bW.mono HR.out.2.size)⟩
      obtain ⟨s0, s1, s2, s3, s4⟩ := box5 y1
      obtain ⟨c0, c5⟩ := HX.out W1 bW
      obtain ⟨X, hX⟩ : ∃ X, X = wr.heap.size := ⟨_, rfl⟩
      rw [← hX] at s0 s1 s2 s3 s4
      have HY : Hid (∀ W, Below W1.heap.size W1 W → W.cell? ⟨X, 0, none⟩ = some (.int .i64 l.no) ∧ W.cell? ⟨X, 1, none⟩ = some (.string l.item)) := fun W hW => by
        have y2 := (hW.block _ (Array.getElem?_eq_some_iff.1 y1).1).trans y1
        rw [← hX] at y2
        exact ⟨(box5 y2).1, (box5 y2).2.1⟩
      have HBAD : Hid (∀ (W : World), Below w.heap.size w W → badL r o ls k → OopOut q.kind ls w (.returned (.int .i64 (k : Int))) W) := fun W hW hbd => ⟨_, rfl, .inr ⟨by omega, by omega, fun g => (HP.out ls).1 g k hbd⟩, hW⟩
      have HB : Hid (badL r o ls k ↔ (r = true ∧ (l.no ≤ z ∨ 999 < l.no)) ∨ (o = true ∧ itmB (ls.take k) l.item = true)) := by show _ ↔ _; rw [HA.out.2.2]; exact badL_iff hs
      clear hs hb b1 bW y1
      go_upto_region 6 with fail
      try rw [hW1]
      try rw [← hX]
      clear hW1 hX q0 q1 q2 q3 q4
      cases r with
      | false =>
        cases o with
        | false =>
          have HNB : Hid (¬ badL false false ls k) := by show ¬ _; rw [HB.out]; simp
          go_upto_region 8 with fail
          go_quiet (fail)
          have HD : Hid (∀ n, Below W0.heap.size W0 (W1.drewN n)) := fun n => below_drewN HS.out.2.1 n
          go_wp2
          go_roundw
          case rel =>
            refine ⟨k + 1, by go_num, by rw [lastN_next HS.out.1], by omega, fun i hi => ?_, HD.out _⟩
            rcases Nat.lt_or_ge i k with g | g
            · exact HA.out.1 i g
            · obtain rfl : i = k := by omega
              exact fun hbd => HNB.out hbd
          case measure => simp [intOf]; omega
        | true =>
          have QI := hasItem_any (.slice (some ⟨b, of, none⟩) k C) (ls.take k) l.item
          obtain ⟨hv, hhv⟩ : ∃ hv, hv = itmB (ls.take k) l.item := ⟨_, rfl⟩
          rw [← hhv] at QI
          have HV : Hid (hv = itmB (ls.take k) l.item) := hhv
          have hrow := HS.out.2.2.1.takeL k C (by omega)
          have HRW : Hid (∀ W, Below W1.heap.size W1 W → RowL W (.slice (some ⟨b, of, none⟩) k C) (ls.take k)) := fun W hW => hrow.below hW
          clear hhv hrow
          have hkC : (k : Int) ≤ (C : Int) := by omega
          go_upto_region 8 with fail
          go_region_held3 (fun W => W.cell? ⟨w.heap.size, 5, none⟩ = some (.slice (some ⟨b, of, none⟩) ls.length C) ∧ W.cell? ⟨X, 1, none⟩ = some (.string l.item)) (go_keep) (first | (go_at_call 179; refine (QI _ (by first | exact HRW.out _ (Below.refl _ _) | exact HRW.out _ (Below.refl _ _).drew)).mono ?_; rintro e w5 ⟨rfl, hb5⟩; have b5 : Below W1.heap.size W1 w5 := (by first | exact hb5 | exact undrewP hb5); obtain ⟨g0, g5⟩ := HX.out w5 (HS.out.2.1.trans (b5.mono HS.out.2.1.size)); obtain ⟨t0, t1⟩ := HY.out w5 b5; clear hb5; try dsimp only) | fail)
          rename_i hHeld
          clear hHeld
          have H5 : Hid (Below W0.heap.size W0 w5 ∧ Below w.heap.size w w5) := ⟨HS.out.2.1.trans (b5.mono HS.out.2.1.size), HS.out.2.2.2.2.trans (b5.mono HS.out.2.2.2.2.size)⟩
          cases hv with
          | true =>
            have HB1 : Hid (badL false true ls k) := HB.out.2 (.inr ⟨rfl, HV.out.symm⟩)
            go_wp2
            go_ret
            exact HBAD.out _ H5.out.2 HB1.out
          | false =>
            have HNB : Hid (¬ badL false true ls k) := by show ¬ _; rw [HB.out, ← HV.out]; simp
            go_wp2
            go_roundw
            case rel =>
              refine ⟨k + 1, by go_num, by rw [lastN_next HS.out.1], by omega, fun i hi => ?_, H5.out.1⟩
              rcases Nat.lt_or_ge i k with g | g
              · exact HA.out.1 i g
              · obtain rfl : i = k := by omega
                exact fun hbd => HNB.out hbd
            case measure => simp [intOf]; omega
      | true =>
        by_cases h1 : l.no ≤ z
        · have HB1 : Hid (badL true o ls k) := HB.out.2 (.inl ⟨rfl, .inl h1⟩)
          go_wp2
          go_ret
          exact HBAD.out _ HS.out.2.2.2.2 HB1.out
        · by_cases h2 : 999 < l.no
          · have HB1 : Hid (badL true o ls k) := HB.out.2 (.inl ⟨rfl, .inr h2⟩)
            go_wp2
            go_ret
            exact HBAD.out _ HS.out.2.2.2.2 HB1.out
          · skip
            cases o with
            | false =>
              have HNB : Hid (¬ badL true false ls k) := by show ¬ _; rw [HB.out]; simp; omega
              go_upto_region 8 with fail
              go_quiet (fail)
              have HD : Hid (∀ n, Below W0.heap.size W0 (W1.drewN n)) := fun n => below_drewN HS.out.2.1 n
              go_wp2
              go_roundw
              case rel =>
                refine ⟨k + 1, by go_num, by rw [lastN_next HS.out.1], by omega, fun i hi => ?_, HD.out _⟩
                rcases Nat.lt_or_ge i k with g | g
                · exact HA.out.1 i g
                · obtain rfl : i = k := by omega
                  exact fun hbd => HNB.out hbd
              case measure => simp [intOf]; omega
            | true =>
              have QI := hasItem_any (.slice (some ⟨b, of, none⟩) k C) (ls.take k) l.item
              obtain ⟨hv, hhv⟩ : ∃ hv, hv = itmB (ls.take k) l.item := ⟨_, rfl⟩
              rw [← hhv] at QI
              have HV : Hid (hv = itmB (ls.take k) l.item) := hhv
              have hrow := HS.out.2.2.1.takeL k C (by omega)
              have HRW : Hid (∀ W, Below W1.heap.size W1 W → RowL W (.slice (some ⟨b, of, none⟩) k C) (ls.take k)) := fun W hW => hrow.below hW
              clear hhv hrow
              have hkC : (k : Int) ≤ (C : Int) := by omega
              go_upto_region 8 with fail
              go_region_held3 (fun W => W.cell? ⟨w.heap.size, 5, none⟩ = some (.slice (some ⟨b, of, none⟩) ls.length C) ∧ W.cell? ⟨X, 1, none⟩ = some (.string l.item)) (go_keep) (first | (go_at_call 179; refine (QI _ (by first | exact HRW.out _ (Below.refl _ _) | exact HRW.out _ (Below.refl _ _).drew)).mono ?_; rintro e w5 ⟨rfl, hb5⟩; have b5 : Below W1.heap.size W1 w5 := (by first | exact hb5 | exact undrewP hb5); obtain ⟨g0, g5⟩ := HX.out w5 (HS.out.2.1.trans (b5.mono HS.out.2.1.size)); obtain ⟨t0, t1⟩ := HY.out w5 b5; clear hb5; try dsimp only) | fail)
              rename_i hHeld
              clear hHeld
              have H5 : Hid (Below W0.heap.size W0 w5 ∧ Below w.heap.size w w5) := ⟨HS.out.2.1.trans (b5.mono HS.out.2.1.size), HS.out.2.2.2.2.trans (b5.mono HS.out.2.2.2.2.size)⟩
              cases hv with
              | true =>
                have HB1 : Hid (badL true true ls k) := HB.out.2 (.inr ⟨rfl, HV.out.symm⟩)
                go_wp2
                go_ret
                exact HBAD.out _ H5.out.2 HB1.out
              | false =>
                have HNB : Hid (¬ badL true true ls k) := by show ¬ _; rw [HB.out, ← HV.out]; simp; omega
                go_wp2
                go_roundw
                case rel =>
                  refine ⟨k + 1, by go_num, by rw [lastN_next HS.out.1], by omega, fun i hi => ?_, H5.out.1⟩
                  rcases Nat.lt_or_ge i k with g | g
                  · exact HA.out.1 i g
                  · obtain rfl : i = k := by omega
                    exact fun hbd => HNB.out hbd
                case measure => simp [intOf]; omega
    · obtain rfl : k = ls.length := by omega
      have HF : Hid (PlcOk q.kind ls ∧ Below w.heap.size w wr) := ⟨(HP.out ls).2 fun i hbd => by
        have hbd2 := hbd
        obtain ⟨m, hm, _⟩ := hbd2
        exact HA.out.1 i (List.getElem?_eq_some_iff.1 hm).1 hbd, HR.out.2.trans (hb.mono HR.out.2.size)⟩
      clear hb
      go_wp2
      go_ret
      exact ⟨_, rfl, .inl ⟨rfl, HF.out.1⟩, HF.out.2⟩
end Go.Proofs.YtkaolpnbddjdpaaGreatDoor
