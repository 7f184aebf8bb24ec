/- Contracts of package word by the number that is handed back: Shl, Shr, Not. -/
import Derived.Test.YthbfhfgmanafpaaWordE
import Derived.Test.YthbfhfgmanafpaaMoveD
namespace Go.Proofs.Ythbfhfgmanafpaa
open Go.RowKit

theorem Shr_d {n a b3 b2 b1 b0 a3 a2 a1 a0 : Nat} (hn : Dig n b0 b1 b2 b3) (ha : Dig a a0 a1 a2 a3) (w : World) :
    Calls Try.prog 30 #[.agg #[.int .u64 b3, .int .u64 b2, .int .u64 b1, .int .u64 b0], .agg #[.int .u64 a3, .int .u64 a2, .int .u64 a1, .int .u64 a0]] w (RetD (a / 2 ^ (min n 256)) w) :=
  (Shr_c hn ha w).mono fun _ _ h => h.d
theorem Shl_d {n a b3 b2 b1 b0 a3 a2 a1 a0 : Nat} (hn : Dig n b0 b1 b2 b3) (ha : Dig a a0 a1 a2 a3) (w : World) :
    Calls Try.prog 54 #[.agg #[.int .u64 b3, .int .u64 b2, .int .u64 b1, .int .u64 b0], .agg #[.int .u64 a3, .int .u64 a2, .int .u64 a1, .int .u64 a0]] w (RetD (a * 2 ^ (min n 256) % W256) w) :=
  (Shl_c hn ha w).mono fun _ _ h => h.d
theorem Not_d {a a3 a2 a1 a0 : Nat} (ha : Dig a a0 a1 a2 a3) (w : World) :
    Calls Try.prog 70 #[.agg #[.int .u64 a3, .int .u64 a2, .int .u64 a1, .int .u64 a0]] w (RetD (W256 - 1 - a) w) :=
  (Not_c ha w).mono fun _ _ h => h.d

end Go.Proofs.Ythbfhfgmanafpaa
