/- The laws' helpers of chapter 11: masks compared. -/
import Derived.Test.YthpgcioebmeheaaTL1
namespace Go.Proofs.Ythpgcioebmeheaa
open Go.RowKit
end Go.Proofs.Ythpgcioebmeheaa
