/- Texts of ours put together: GpS. -/
import Derived.Test.YtkgkahlhekecmaaGreatG48
import Derived.Test.YtkgkahlhekecmaaGreatG49
import Derived.Test.YtkgkahlhekecmaaGreatG50
namespace Go.Proofs.YtkgkahlhekecmaaGreat
open Go.ChangeShapes Go.WideShapes Go.ChangeAt Go.RowKit
theorem gatePartner_spec (g : Gat) (up uc us ul ud uo : Value) (t : ByteArray) (w : World) (h : RGt w up uc us ul ud uo g) (hP : BdGt 1048576 g) :
    Calls Tryz.prog 5 #[.agg #[.string g.name, .int .i64 g.day, up, uc, us, ul, ud, uo], .string t] w fun e w' => AnsGoS (gpR g t).2 w (gpR g t).1 e w' := by
  by_cases h20 : 20000 < t.size
  · exact gpS_err g up uc us ul ud uo t w h hP (.inl h20)
  cases hy : gtB g
  · exact gpS_err g up uc us ul ud uo t w h hP (.inr (.inl hy))
  cases hz : nameB t
  · exact gpS_err g up uc us ul ud uo t w h hP (.inr (.inr (.inl hz)))
  cases hp : hasP g t
  case true => exact gpS_err g up uc us ul ud uo t w h hP (.inr (.inr (.inr (.inl hp))))
  by_cases hl : g.ptns.length = 20
  · exact gpS_err g up uc us ul ud uo t w h hP (.inr (.inr (.inr (.inr hl))))
  rcases Nat.lt_or_ge (plcP g.ptns t) g.ptns.length with hm | hm
  · exact gpS_mid g up uc us ul ud uo t w h hP h20 hy hz hp hl hm
  · exact gpS_end g up uc us ul ud uo t w h hP h20 hy hz hp hl (Nat.le_antisymm List.countP_le_length hm)
end Go.Proofs.YtkgkahlhekecmaaGreat
