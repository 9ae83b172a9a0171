/-
  When two states of four words are the same.
-/
import Derived.Test.YtmhpnkfibecnmaaDoorWordsS
import Derived.ChangeKeysEq
namespace Go.Proofs.YtmhpnkfibecnmaaDoor
open Go Go.RowKit
open M
set_option linter.unusedVariables false

theorem equalS (a b c d a' b' c' d' : Int) (w : World) : Sem.run Tryd.prog (Op.equalIn 10000 86 (.agg #[.int .u64 a, .int .u64 b, .int .u64 c, .int .u64 d]) (.agg #[.int .u64 a', .int .u64 b', .int .u64 c', .int .u64 d'])) w = .ok (a == a' && (b == b' && (c == c' && d == d'))) w := by
  have u4 := Tryd.underlying46
  obtain ⟨i0, hi⟩ : ∃ i0, Tryd.prog.info? 46 = some i0 := Option.isSome_iff_exists.1 (by kernel_rfl)
  have h := run_equalIn_array (P := Tryd.prog) w 9999 #[.int .u64 a, .int .u64 b, .int .u64 c, .int .u64 d] #[.int .u64 a', .int .u64 b', .int .u64 c', .int .u64 d'] Tryd.underlying86 hi
  have hc : Tryd.prog.cellsOf 46 = 1 := by kernel_rfl
  have a4 := Tryd.isAgg46
  have z4 := Tryd.sizeOf46
  rw [h, hc]
  go_simp
  simp only [Op.eqItems]
  go_simp
  by_cases h1 : a = a' <;> by_cases h2 : b = b' <;> by_cases h3 : c = c' <;> by_cases h4 : d = d' <;> simp [h1, h2, h3, h4]
end Go.Proofs.YtmhpnkfibecnmaaDoor
