/-
  Layer 6 (tzif): the law TzifPuts, whole.
-/
import Derived.Test.YtohpdpcjhmopbaaTzPutsW
import Derived.Test.YtohpdpcjhmopbaaTzifMoreWalk
namespace Go.Proofs.Ytohpdpcjhmopbaa.Tz
open Go.RowKit

theorem tzifPuts_any (z o : Zn) (vt vs vi ut us ui : Value) (sec : Int) (w : World) (hz : ZnAt w w.heap.size z vt vs vi) (iz : ZnIn z) (ho : ZnAt w w.heap.size o ut us ui) (io : ZnIn o) :
    Calls Try.prog 3 #[.agg #[vt, vs, vi, .string z.footer], .agg #[ut, us, ui, .string o.footer], .int .i64 sec] w fun e w' => e = .returned (.bool true) ∧ Below w.heap.size w w' := by
  cases hf : fewZ z 500 with
  | false => exact puts_a z o vt vs vi ut us ui sec w hz ho hf
  | true =>
    cases hg : fewZ o 500 with
    | false => exact puts_b z o vt vs vi ut us ui sec w hz ho hf hg
    | true =>
      have kz := ok_of_few iz (by decide) hf
      have ko := ok_of_few io (by decide) hg
      cases hr : rightZ z with
      | true => exact puts_yes z o vt vs vi ut us ui sec w hz ho hf hg kz ko hr
      | false => exact puts_no z o vt vs vi ut us ui sec w hz ho hf hg kz ko hr
end Go.Proofs.Ytohpdpcjhmopbaa.Tz
