/- What EventsRead tells: pure. -/
import Derived.Test.YtcdmnodhkgiaaaaDoorPcP
import Derived.Test.YtcdmnodhkgiaaaaDoorDgR
import Derived.Test.YtcdmnodhkgiaaaaDoorEtQ
namespace Go.Proofs.YtcdmnodhkgiaaaaDoor
open Go.ChangeShapes Go.WideShapes Go.ChangeAt Go.RowKit
/-- No event. -/
def zeE : EvR := ⟨0, ⟨#[]⟩, ⟨#[]⟩, ⟨#[]⟩⟩
theorem zeE_no : evB zeE = false := evB_no fun h => by rcases h.ok with ⟨h, _⟩ | ⟨h, _⟩ | ⟨h, _⟩ | ⟨h, _⟩ <;> cases h
def vE (e : EvR) : Value := evV e.kind e.a e.b e.c
/-- What a partner's words tell, and a cross's, a take's, a next's. -/
def wdP : List ByteArray → EvR
  | [a] => ⟨1, a, ⟨#[]⟩, ⟨#[]⟩⟩
  | _ => zeE
def wdC : List ByteArray → EvR
  | [x, y, z] => ⟨2, x, y, z⟩
  | _ => zeE
def wdT : List ByteArray → EvR
  | [a] => if a.size = 0 then zeE else if a = ⟨#[45]⟩ then ⟨3, ⟨#[]⟩, ⟨#[]⟩, ⟨#[]⟩⟩ else if a.size % 2 = 0 ∧ allX a.data.toList = true then ⟨3, ⟨(decB a.data.toList).toArray⟩, ⟨#[]⟩, ⟨#[]⟩⟩ else zeE
  | _ => zeE
theorem wdT_one (a : ByteArray) : wdT [a] = if a.size = 0 then zeE else if a = ⟨#[45]⟩ then ⟨3, ⟨#[]⟩, ⟨#[]⟩, ⟨#[]⟩⟩ else if a.size % 2 = 0 ∧ allX a.data.toList = true then ⟨3, ⟨(decB a.data.toList).toArray⟩, ⟨#[]⟩, ⟨#[]⟩⟩ else zeE := rfl
def wdN (ws : List ByteArray) : EvR := if ws.length = 0 then ⟨4, ⟨#[]⟩, ⟨#[]⟩, ⟨#[]⟩⟩ else zeE
theorem wdP_v (ws : List ByteArray) : rdP ws = vE (wdP ws) := by
  match ws with
  | [] => rfl
  | [_] => rfl
  | _ :: _ :: _ => rfl
theorem wdC_v (ws : List ByteArray) : rdC ws = vE (wdC ws) := by
  match ws with
  | [] => rfl
  | [_] => rfl
  | [_, _] => rfl
  | [_, _, _] => rfl
  | _ :: _ :: _ :: _ :: _ => rfl
theorem wdT_v (ws : List ByteArray) : rdT ws = vE (wdT ws) := by
  match ws with
  | [] => rfl
  | [a] =>
    show (if a.size = 0 then _ else if a = ⟨#[45]⟩ then _ else if a.size % 2 = 0 ∧ allX a.data.toList = true then _ else _) = vE (if a.size = 0 then _ else if a = ⟨#[45]⟩ then _ else if a.size % 2 = 0 ∧ allX a.data.toList = true then _ else _)
    by_cases h0 : a.size = 0
    · rw [if_pos h0, if_pos h0]; rfl
    rw [if_neg h0, if_neg h0]
    by_cases h1 : a = ⟨#[45]⟩
    · rw [if_pos h1, if_pos h1]; rfl
    rw [if_neg h1, if_neg h1]
    by_cases h2 : a.size % 2 = 0 ∧ allX a.data.toList = true
    · rw [if_pos h2, if_pos h2]; rfl
    · rw [if_neg h2, if_neg h2]; rfl
  | _ :: _ :: _ => rfl
theorem wdN_v (ws : List ByteArray) : (if ws.length = 0 then evV 4 ⟨#[]⟩ ⟨#[]⟩ ⟨#[]⟩ else evV 0 ⟨#[]⟩ ⟨#[]⟩ ⟨#[]⟩) = vE (wdN ws) := by
  unfold wdN
  split <;> rfl
/-- What the words of a line tell. -/
def rdW : List ByteArray → EvR
  | [] => zeE
  | w :: r => if w = evW 1 then wdP r else if w = evW 2 then wdC r else if w = evW 3 then wdT r else if w = evW 4 then wdN r else zeE
/-- The model's reading: a kind by the first word. -/
def mdK (w : ByteArray) : Int := if w = evW 1 then 1 else if w = evW 2 then 2 else if w = evW 3 then 3 else if w = evW 4 then 4 else 0
def mdA (ws : List ByteArray) (j : Nat) : ByteArray := (ws[j]?).getD ⟨#[]⟩
/-- Whose digits a text is. -/
def unX (t : ByteArray) : Option ByteArray := if t = ⟨#[45]⟩ then some ⟨#[]⟩ else if 0 < t.size ∧ t.size % 2 = 0 ∧ allX t.data.toList = true then some ⟨(decB t.data.toList).toArray⟩ else none
/-- What the model reads of words. -/
def mdR (ws : List ByteArray) : Option EvR :=
  if mdK (mdA ws 0) = 3 then (unX (mdA ws 1)).map fun a => ⟨3, a, mdA ws 2, mdA ws 3⟩
  else some ⟨mdK (mdA ws 0), mdA ws 1, mdA ws 2, mdA ws 3⟩
theorem evW_ne : evW 1 ≠ evW 2 ∧ evW 1 ≠ evW 3 ∧ evW 1 ≠ evW 4 ∧ evW 2 ≠ evW 3 ∧ evW 2 ≠ evW 4 ∧ evW 3 ≠ evW 4 := by decide
theorem mdK_ok {w : ByteArray} {k : Nat} (h : mdK w = k) (h1 : 1 ≤ k) : k ≤ 4 ∧ w = evW k := by
  unfold mdK at h
  repeat' split at h
  all_goals first
    | (obtain rfl : k = 1 := by omega
       exact ⟨by omega, by assumption⟩)
    | (obtain rfl : k = 2 := by omega
       exact ⟨by omega, by assumption⟩)
    | (obtain rfl : k = 3 := by omega
       exact ⟨by omega, by assumption⟩)
    | (obtain rfl : k = 4 := by omega
       exact ⟨by omega, by assumption⟩)
    | omega
theorem mdK_1 : mdK (evW 1) = 1 := by decide
theorem mdK_2 : mdK (evW 2) = 2 := by decide
theorem mdK_3 : mdK (evW 3) = 3 := by decide
theorem mdK_4 : mdK (evW 4) = 4 := by decide
theorem rdW_1 (r : List ByteArray) : rdW (evW 1 :: r) = wdP r := by rw [rdW, if_pos rfl]
theorem rdW_2 (r : List ByteArray) : rdW (evW 2 :: r) = wdC r := by
  obtain ⟨h12, _⟩ := evW_ne
  rw [rdW, if_neg h12.symm, if_pos rfl]
theorem rdW_3 (r : List ByteArray) : rdW (evW 3 :: r) = wdT r := by
  obtain ⟨_, h13, _, h23, _⟩ := evW_ne
  rw [rdW, if_neg h13.symm, if_neg h23.symm, if_pos rfl]
theorem rdW_4 (r : List ByteArray) : rdW (evW 4 :: r) = wdN r := by
  obtain ⟨_, _, h14, _, h24, h34⟩ := evW_ne
  rw [rdW, if_neg h14.symm, if_neg h24.symm, if_neg h34.symm, if_pos rfl]
theorem hexZ_dec : ∀ l : List UInt8, l.length % 2 = 0 → allX l = true → hexZ (decB l) = l.map fun c => (c.toNat : Int)
  | [], _, _ => rfl
  | [_], h, _ => by simp at h
  | a :: b :: l, h, hx => by
    simp only [allX, List.all_cons, Bool.and_eq_true] at hx
    obtain ⟨ha, hb, hl⟩ := hx
    obtain ⟨i, hi⟩ := Option.isSome_iff_exists.1 ha
    obtain ⟨j, hj⟩ := Option.isSome_iff_exists.1 hb
    obtain ⟨i1, i2⟩ := valD_lt hi
    obtain ⟨j1, j2⟩ := valD_lt hj
    have ih := hexZ_dec l (by simp at h; omega) hl
    have e : (UInt8.ofNat ((16 * ((valB a).getD 0) + (valB b).getD 0 : Nat) : Int).toNat).toNat = 16 * i + j := by
      rw [hi, hj, UInt8.toNat_ofNat', Int.toNat_natCast]
      simp only [Option.getD_some]
      omega
    show hexD ((UInt8.ofNat ((16 * ((valB a).getD 0) + (valB b).getD 0 : Nat) : Int).toNat).toNat / 16) :: hexD ((UInt8.ofNat ((16 * ((valB a).getD 0) + (valB b).getD 0 : Nat) : Int).toNat).toNat % 16) :: hexZ (decB l) = _
    rw [e, ih, show (16 * i + j) / 16 = i by omega, show (16 * i + j) % 16 = j by omega, i2, j2]
    rfl
theorem hexB_dec {l : List UInt8} (h : l.length % 2 = 0) (hx : allX l = true) : hexB (decB l) = l := by
  unfold hexB
  rw [hexZ_dec l h hx, List.map_map]
  have e : ((fun z : Int => UInt8.ofNat z.toNat) ∘ fun c : UInt8 => (c.toNat : Int)) = id := by
    funext c
    simp
  rw [e, List.map_id]
theorem decB_ne {l : List UInt8} (h : l.length % 2 = 0) (h0 : 0 < l.length) : 0 < (decB l).length := by
  match l, h, h0 with
  | [_], h, _ => simp at h
  | a :: b :: r, _, _ => simp [decB, decZ]
theorem unX_take {t a : ByteArray} (h : unX t = some a) : takeT a = t := by
  unfold unX at h
  by_cases h1 : t = ⟨#[45]⟩
  · rw [if_pos h1] at h
    cases h
    rw [h1]
    rfl
  · rw [if_neg h1] at h
    by_cases h2 : 0 < t.size ∧ t.size % 2 = 0 ∧ allX t.data.toList = true
    · rw [if_pos h2] at h
      cases h
      have hl : t.data.toList.length = t.size := rfl
      have h3 := decB_ne (l := t.data.toList) (by omega) (by omega)
      unfold takeT
      rw [if_neg (by simp [ByteArray.size]; intro e; rw [e] at h3; simp at h3)]
      exact congrArg (fun x : List UInt8 => (⟨x.toArray⟩ : ByteArray)) (hexB_dec (l := t.data.toList) (by omega) h2.2.2)
    · rw [if_neg h2] at h
      cases h
/-- The text of an event, by its words. -/
theorem evX_jn (e : EvR) : evX e = jnB 32 (evR e) := by
  unfold evX evR
  repeat' split
  all_goals
    apply ByteArray.ext
    apply Array.toList_inj.1
    simp [jnB, jnC, toB, evW, ByteArray.data_append]
theorem jsz_cons (a b : ByteArray) (r : List ByteArray) : a.size + 1 + b.size + (if r = [] then 0 else 1) ≤ jsz (a :: b :: r) := by
  cases r with
  | nil => simp [jsz]
  | cons c r => simp [jsz]; omega
theorem jsz_four (a b c d : ByteArray) (r : List ByteArray) : a.size + 1 + b.size + 1 + c.size + 1 + d.size + (if r = [] then 0 else 1) ≤ jsz (a :: b :: c :: d :: r) := by
  have := jsz_cons c d r
  simp only [jsz] at this ⊢
  omega
/-- The two readings are one. -/
theorem md_iff {ws : List ByteArray} {t : ByteArray} (hw : ws = pcB 32 t) (e : EvR) : (mdR ws = some e ∧ evB e = true ∧ evX e = t) ↔ (rdW ws = e ∧ evB e = true) := by
  have hne : ws ≠ [] := by rw [hw]; exact pcB_ne _ _
  have hj : jnB 32 ws = t := by rw [hw]; exact jnB_pcB _ _
  have hsz : t.size = jsz ws := by rw [← hj, jnB_size]
  clear hw
  obtain ⟨w0, r, rfl⟩ := List.exists_cons_of_ne_nil hne
  have s1 : (evW 1).size = 7 := rfl
  have s2 : (evW 2).size = 5 := rfl
  have s3 : (evW 3).size = 4 := rfl
  have s4 : (evW 4).size = 4 := rfl
  have nm0 : ¬ nameB ⟨#[]⟩ = true := by decide
  constructor
  · rintro ⟨hm, he, hx⟩
    refine ⟨?_, he⟩
    have hok := evB_iff.1 he
    have hxs : (evX e).size = jsz (evR e) := by rw [evX_jn, jnB_size]
    rw [hx, hsz] at hxs
    have hA0 : mdA (w0 :: r) 0 = w0 := rfl
    unfold mdR at hm
    rw [hA0] at hm
    rcases hok.ok with ⟨hk, hn, hb, hc⟩ | ⟨hk, hn1, hn2, hn3⟩ | ⟨hk, hn, hb, hc⟩ | ⟨hk, ha, hb, hc⟩
    · have h3 : ¬ mdK w0 = 3 := fun h3 => by
        rw [if_pos h3] at hm
        obtain ⟨a, _, rfl⟩ := Option.map_eq_some_iff.1 hm
        cases hk
      rw [if_neg h3] at hm
      cases hm
      obtain ⟨_, rfl⟩ := mdK_ok (k := 1) hk (by omega)
      rw [rdW_1]
      simp only at hk hn hb hc hxs ⊢
      have hR : evR ⟨mdK (evW 1), mdA (evW 1 :: r) 1, mdA (evW 1 :: r) 2, mdA (evW 1 :: r) 3⟩ = [evW 1, mdA (evW 1 :: r) 1] := if_pos hk
      rw [hR] at hxs
      rw [hb, hc, hk]
      cases r with
      | nil => exact absurd hn nm0
      | cons a r =>
        have := jsz_cons (evW 1) a r
        have e1 : mdA (evW 1 :: a :: r) 1 = a := rfl
        rw [e1] at hxs ⊢
        have e9 : jsz [evW 1, a] = (evW 1).size + 1 + a.size := rfl
        rw [e9] at hxs
        cases r with
        | nil => rfl
        | cons b r => rw [if_neg (by simp)] at this; omega
    · have h3 : ¬ mdK w0 = 3 := fun h3 => by
        rw [if_pos h3] at hm
        obtain ⟨a, _, rfl⟩ := Option.map_eq_some_iff.1 hm
        cases hk
      rw [if_neg h3] at hm
      cases hm
      obtain ⟨_, rfl⟩ := mdK_ok (k := 2) hk (by omega)
      rw [rdW_2]
      simp only at hk hn1 hn2 hn3 hxs ⊢
      have hR : evR ⟨mdK (evW 2), mdA (evW 2 :: r) 1, mdA (evW 2 :: r) 2, mdA (evW 2 :: r) 3⟩ = [evW 2, mdA (evW 2 :: r) 1, mdA (evW 2 :: r) 2, mdA (evW 2 :: r) 3] := by
        unfold evR
        rw [if_neg (fun e => by have e' : mdK (evW 2) = 1 := e; omega), if_pos hk]
      rw [hR] at hxs
      rw [hk]
      match r with
      | [] => exact absurd hn1 nm0
      | [_] => exact absurd hn2 nm0
      | [_, _] => exact absurd hn3 nm0
      | a :: b :: c :: r =>
        have := jsz_four (evW 2) a b c r
        have e1 : mdA (evW 2 :: a :: b :: c :: r) 1 = a := rfl
        have e2 : mdA (evW 2 :: a :: b :: c :: r) 2 = b := rfl
        have e3 : mdA (evW 2 :: a :: b :: c :: r) 3 = c := rfl
        rw [e1, e2, e3] at hxs ⊢
        have e9 : jsz [evW 2, a, b, c] = (evW 2).size + 1 + (a.size + 1 + (b.size + 1 + c.size)) := rfl
        rw [e9] at hxs
        cases r with
        | nil => rfl
        | cons d r => rw [if_neg (by simp)] at this; omega
    · have h3 : mdK w0 = 3 := by
        refine Classical.byContradiction fun h3 => ?_
        rw [if_neg h3] at hm
        cases hm
        exact h3 hk
      rw [if_pos h3] at hm
      obtain ⟨a, hu, rfl⟩ := Option.map_eq_some_iff.1 hm
      obtain ⟨_, rfl⟩ := mdK_ok (k := 3) h3 (by omega)
      rw [rdW_3]
      simp only at hb hc hxs hn ⊢
      have hR : evR ⟨3, a, mdA (evW 3 :: r) 2, mdA (evW 3 :: r) 3⟩ = [evW 3, takeT a] := rfl
      rw [hR, unX_take hu] at hxs
      rw [hb, hc]
      cases r with
      | nil =>
        have hu0 : unX ⟨#[]⟩ = some a := hu
        unfold unX at hu0
        rw [if_neg (by decide), if_neg (fun h => absurd h.1 (by decide))] at hu0
        cases hu0
      | cons x r =>
        have := jsz_cons (evW 3) x r
        have e1 : mdA (evW 3 :: x :: r) 1 = x := rfl
        rw [e1] at hxs hu
        have e9 : jsz [evW 3, x] = (evW 3).size + 1 + x.size := rfl
        rw [e9] at hxs
        cases r with
        | nil =>
          unfold unX at hu
          rw [wdT_one]
          by_cases h1 : x = ⟨#[45]⟩
          · rw [if_pos h1] at hu
            cases hu
            rw [if_neg (by rw [h1]; decide), if_pos h1]
          · rw [if_neg h1] at hu
            by_cases h2 : 0 < x.size ∧ x.size % 2 = 0 ∧ allX x.data.toList = true
            · rw [if_pos h2] at hu
              cases hu
              rw [if_neg (by omega), if_neg h1, if_pos h2.2]
            · rw [if_neg h2] at hu
              cases hu
        | cons b r => rw [if_neg (by simp)] at this; omega
    · have h3 : ¬ mdK w0 = 3 := fun h3 => by
        rw [if_pos h3] at hm
        obtain ⟨a, _, rfl⟩ := Option.map_eq_some_iff.1 hm
        cases hk
      rw [if_neg h3] at hm
      cases hm
      obtain ⟨_, rfl⟩ := mdK_ok (k := 4) hk (by omega)
      rw [rdW_4]
      simp only at hk ha hb hc hxs ⊢
      have hR : evR ⟨mdK (evW 4), mdA (evW 4 :: r) 1, mdA (evW 4 :: r) 2, mdA (evW 4 :: r) 3⟩ = [evW 4] := by
        unfold evR
        rw [if_neg (fun e => by have e' : mdK (evW 4) = 1 := e; omega), if_neg (fun e => by have e' : mdK (evW 4) = 2 := e; omega), if_neg (fun e => by have e' : mdK (evW 4) = 3 := e; omega)]
      rw [hR] at hxs
      rw [ha, hb, hc, hk]
      cases r with
      | nil => rfl
      | cons a r =>
        have := jsz_cons (evW 4) a r
        have e9 : jsz [evW 4] = (evW 4).size := rfl
        rw [e9] at hxs
        omega
  · rintro ⟨rfl, he⟩
    have hok := evB_iff.1 he
    have hz : ∀ x, rdW (w0 :: r) = x → x = zeE → False := fun x h1 h2 => by
      rw [h1, h2, zeE_no] at he
      cases he
    have hgo : ∀ e, rdW (w0 :: r) = e → mdR (w0 :: r) = some e → evR e = w0 :: r → mdR (w0 :: r) = some (rdW (w0 :: r)) ∧ evB (rdW (w0 :: r)) = true ∧ evX (rdW (w0 :: r)) = t := fun e h1 h2 h3 => by
      refine ⟨by rw [h1, h2], he, ?_⟩
      rw [evX_jn, h1, h3, hj]
    have hA0 : mdA (w0 :: r) 0 = w0 := rfl
    by_cases k1 : w0 = evW 1
    · subst k1
      match r with
      | [] => exact (hz _ (rdW_1 _) rfl).elim
      | [a] => exact hgo _ (rdW_1 _) rfl rfl
      | _ :: _ :: _ => exact (hz _ (rdW_1 _) rfl).elim
    by_cases k2 : w0 = evW 2
    · subst k2
      match r with
      | [] => exact (hz _ (rdW_2 _) rfl).elim
      | [_] => exact (hz _ (rdW_2 _) rfl).elim
      | [_, _] => exact (hz _ (rdW_2 _) rfl).elim
      | [a, b, c] => exact hgo _ (rdW_2 _) rfl rfl
      | _ :: _ :: _ :: _ :: _ => exact (hz _ (rdW_2 _) rfl).elim
    by_cases k3 : w0 = evW 3
    · subst k3
      match r with
      | [] => exact (hz _ (rdW_3 _) rfl).elim
      | [a] =>
        have hm : ∀ b, unX a = some b → mdR [evW 3, a] = some ⟨3, b, ⟨#[]⟩, ⟨#[]⟩⟩ := fun b hb => by
          unfold mdR
          rw [if_pos (show mdK (mdA [evW 3, a] 0) = 3 from mdK_3)]
          show (unX a).map _ = _
          rw [hb]
          rfl
        by_cases h0 : a.size = 0
        · exact (hz _ ((rdW_3 _).trans (wdT_one a)) (if_pos h0)).elim
        by_cases h1 : a = ⟨#[45]⟩
        · have hu : unX a = some ⟨#[]⟩ := if_pos h1
          refine hgo _ (((rdW_3 _).trans (wdT_one a)).trans ((if_neg h0).trans (if_pos h1))) (hm _ hu) ?_
          rw [h1]
          rfl
        by_cases h2 : a.size % 2 = 0 ∧ allX a.data.toList = true
        · have hu : unX a = some ⟨(decB a.data.toList).toArray⟩ := (if_neg h1).trans (if_pos ⟨by omega, h2⟩)
          refine hgo _ (((rdW_3 _).trans (wdT_one a)).trans ((if_neg h0).trans ((if_neg h1).trans (if_pos h2)))) (hm _ hu) ?_
          show [evW 3, takeT _] = _
          rw [unX_take hu]
        · exact (hz _ ((rdW_3 _).trans (wdT_one a)) ((if_neg h0).trans ((if_neg h1).trans (if_neg h2)))).elim
      | _ :: _ :: _ => exact (hz _ (rdW_3 _) rfl).elim
    by_cases k4 : w0 = evW 4
    · subst k4
      match r with
      | [] => exact hgo _ (rdW_4 _) rfl rfl
      | _ :: _ => exact (hz _ (rdW_4 _) rfl).elim
    · refine (hz _ ?_ rfl).elim
      rw [rdW, if_neg k1, if_neg k2, if_neg k3, if_neg k4]
/-- Is a line an event's text? -/
noncomputable def goodL (l : ByteArray) : Bool := evB (rdW (pcB 32 l))
/-- What the lines tell from the k-th on. -/
noncomputable def rdJ (rest : ByteArray) : Nat → List ByteArray → List EvR → List EvR × Nat × Int
  | k, [], acc => if rest.size = 0 then (acc, 0, 0) else ([], k, 3)
  | k, l :: ls, acc => if goodL l = true ∧ k < 60 then rdJ rest (k + 1) ls (acc ++ [rdW (pcB 32 l)]) else ([], k, 3)
theorem rdJ_next {rest l : ByteArray} {ls : List ByteArray} {k : Nat} {acc : List EvR} (h : goodL l = true) (hk : k < 60) : rdJ rest k (l :: ls) acc = rdJ rest (k + 1) ls (acc ++ [rdW (pcB 32 l)]) := by rw [rdJ, if_pos ⟨h, hk⟩]
theorem rdJ_bad {rest l : ByteArray} {ls : List ByteArray} {k : Nat} {acc : List EvR} (h : ¬ (goodL l = true ∧ k < 60)) : rdJ rest k (l :: ls) acc = ([], k, 3) := by rw [rdJ, if_neg h]
theorem rdJ_end {rest : ByteArray} {k : Nat} {acc : List EvR} (h : rest.size = 0) : rdJ rest k [] acc = (acc, 0, 0) := by rw [rdJ, if_pos h]
theorem rdJ_rest {rest : ByteArray} {k : Nat} {acc : List EvR} (h : ¬ rest.size = 0) : rdJ rest k [] acc = ([], k, 3) := by rw [rdJ, if_neg h]
end Go.Proofs.YtcdmnodhkgiaaaaDoor
