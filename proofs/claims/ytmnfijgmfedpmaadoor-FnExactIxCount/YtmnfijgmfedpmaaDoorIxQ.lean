/- Numbers told as texts, and the segments of messages, bundles and interchanges. -/
import Derived.Test.YtmnfijgmfedpmaaDoorIxP
import Derived.Test.YtmnfijgmfedpmaaDoorShInt
import Derived.Test.YtmnfijgmfedpmaaDoorOwnB
import Derived.Lib.LaidTab
import Derived.Lib.AppendIntMem
namespace Go.Proofs.YtmnfijgmfedpmaaDoor
open Go.ChangeShapes Go.WideShapes Go.ChangeAt Go.RowKit
/-- A number told. -/
def decS (n : Int) : ByteArray := ⟨(Lib.itoa n).toArray⟩
/-- The table of tens lies in its variable. -/
def TabOk (w : World) : Prop := Lib.TabIs Tryd.prog w "internal/strconv.uint64pow10" .u64 Lib.pow10Tab
theorem gPow : Tryd.prog.globalNamed "internal/strconv.uint64pow10" = some 2 := by kernel_rfl
theorem TabOk.lt {w : World} (h : TabOk w) : 2 < w.heap.size := by
  unfold TabOk Lib.TabIs World.var? at h
  rw [gPow] at h
  simp only [Option.bind_some] at h
  rcases Nat.lt_or_ge 2 w.heap.size with q | q
  · exact q
  · rw [Array.getElem?_eq_none q] at h
    cases h
theorem TabOk.of {w w' : World} (h : TabOk w) (hb : w'.heap[2]? = w.heap[2]?) : TabOk w' := by
  unfold TabOk Lib.TabIs World.var? at h ⊢
  rw [gPow] at h ⊢
  simp only [Option.bind_some] at h ⊢
  rw [hb]
  exact h
theorem TabOk.below {w w' : World} (h : TabOk w) (hb : Below w.heap.size w w') : TabOk w' := h.of (hb.block _ h.lt)
theorem fmt_any (n : Int) (w : World) (h0 : -9223372036854775808 ≤ n) (h1 : n ≤ 9223372036854775807) (ht : TabOk w) : Calls Tryd.prog 83 #[.int .i64 n, .int .i64 10] w fun e w' => e = .returned (.string (decS n)) ∧ Below w.heap.size w w' :=
  (Any.strconv_FormatInt_10 laysM173 n h0 h1 w ht).mono fun _ _ ⟨he, k, os, hw⟩ => ⟨he, by rw [hw]; exact Lib.below_grow _ _ (Nat.le_refl _) k os⟩
theorem itoa_any (n : Int) (w : World) (h0 : -9223372036854775808 ≤ n) (h1 : n ≤ 9223372036854775807) (ht : TabOk w) : Calls Tryd.prog 86 #[.int .i64 n] w fun e w' => e = .returned (.string (decS n)) ∧ Below w.heap.size w w' :=
  (Any.strconv_Itoa laysM171 n h0 h1 w ht).mono fun _ _ ⟨he, k, os, hw⟩ => ⟨he, by rw [hw]; exact Lib.below_grow _ _ (Nat.le_refl _) k os⟩
/-- A segment whose elements have one part each. -/
def hdS (tag : ByteArray) (ws : List ByteArray) : Seg := (tag, ws.map fun t => [t])
def tMSH : ByteArray := ⟨#[77, 83, 72]⟩
def tMST : ByteArray := ⟨#[77, 83, 84]⟩
def tGRH : ByteArray := ⟨#[71, 82, 72]⟩
def tGRT : ByteArray := ⟨#[71, 82, 84]⟩
def tIXH : ByteArray := ⟨#[73, 88, 72]⟩
def tIXT : ByteArray := ⟨#[73, 88, 84]⟩
def msgSegs (m : Msg) : List Seg := hdS tMSH [decS m.num] :: (m.body ++ [hdS tMST [decS m.body.length, decS m.num]])
def bunSegs (b : Bun) : List Seg := hdS tGRH [decS b.kind, decS b.num] :: (b.msgs.flatMap msgSegs ++ [hdS tGRT [decS b.msgs.length, decS b.num]])
def ixSegs (x : Ixc) : List Seg := hdS tIXH [x.frm, x.to, decS x.num] :: (x.buns.flatMap bunSegs ++ [hdS tIXT [decS x.buns.length, decS x.num]])
end Go.Proofs.YtmnfijgmfedpmaaDoor
