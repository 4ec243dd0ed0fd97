/-
  Own texts joined by program: FrA.
-/
import Derived.Test.YtpbjikncobnkjaaGreatDoorIbx
import Derived.Test.YtpbjikncobnkjaaGreatDoorIby
import Derived.Test.YtpbjikncobnkjaaGreatDoorCards
import Derived.Test.YtpbjikncobnkjaaGreatDoorTie
import Derived.Deep.DeepHandedRow
namespace Go.Proofs.YtpbjikncobnkjaaGreatDoor
open Go.ChangeShapes Go.WideShapes Go.ChangeAt Go.RowKit Go.Deep Go.Joins
theorem own:ownKnob Tryz.prog.godebug=none:=by kernel_rfl
theorem laidOut6:laidOutB Tryz.prog=true:=by kernel_rfl
def setCells (c:Array Value):Obj→Obj
 | .cells _ t frozen=>.cells c t frozen
 | o=>o
noncomputable def laidWorld (os:Os):World:=
 let w0:=World.holding Tryz.prog os ⟨#[],#[],[]⟩
 { w0 with heap:=((w0.heap.modify 1 (setCells #[.int .i64 0,.int .i64 0,.int .i64 2,.int .i64 0,.int .i64 1,.int .i64 0,.int .i64 1,.int .i64 0,.int .i64 0,.int .i64 0,.int .i64 1,.int .i64 1,.int .i64 2,.int .i64 2,.int .i64 2,.int .i64 2,.int .i64 2,.int .i64 2,.int .i64 2,.int .i64 2,.int .i64 1,.int .i64 (-1),.int .i64 1,.int .i64 (-1),.int .i64 1,.int .i64 2,.int .i64 1,.int .i64 2,.int .i64 1,.int .i64 2,.int .i64 1,.int .i64 2,.int .i64 1,.int .i64 1,.int .i64 1,.int .i64 1])).modify 0 (setCells #[.bool false,.bool false,.bool false,.bool false,.int .i64 0,.int .i64 0,.bool false,.bool false,.bool false,.bool false,.int .i64 0,.int .i64 0,.bool true,.bool true,.bool false,.bool true,.int .i64 0,.int .i64 0,.bool false,.bool false,.bool false,.bool true,.int .i64 1,.int .i64 2,.bool false,.bool false,.bool false,.bool true,.int .i64 1,.int .i64 1,.bool false,.bool false,.bool false,.bool false,.int .i64 1,.int .i64 1,.bool false,.bool false,.bool false,.bool false,.int .i64 1,.int .i64 8,.bool true,.bool false,.bool false,.bool false,.int .i64 1,.int .i64 1,.bool true,.bool true,.bool false,.bool false,.int .i64 0,.int .i64 0,.bool true,.bool false,.bool true,.bool false,.int .i64 0,.int .i64 0,.bool true,.bool false,.bool false,.bool false,.int .i64 0,.int .i64 0,.bool true,.bool false,.bool false,.bool false,.int .i64 0,.int .i64 0])).modify 2 (setCells #[.bool false,.bool false,.int .i64 0,.bool false,.bool true,.int .i64 0,.bool false,.bool false,.int .i64 0,.bool false,.bool false,.int .i64 0,.bool true,.bool false,.int .i64 0,.bool false,.bool false,.int .i64 1,.bool false,.bool false,.int .i64 1,.bool false,.bool true,.int .i64 1,.bool false,.bool false,.int .i64 2,.bool false,.bool false,.int .i64 2,.bool false,.bool false,.int .i64 2,.bool false,.bool false,.int .i64 2,.bool false,.bool false,.int .i64 2,.bool false,.bool false,.int .i64 2,.bool false,.bool false,.int .i64 2,.bool false,.bool false,.int .i64 2,.bool false,.bool false,.int .i64 2,.bool false,.bool false,.int .i64 2]) }
theorem laid_met (os:Os) (args:Array Value):laidMet Tryz.prog Rows.callsChecksRow.laid ((laidWorld os).forCall (fun _ _=>0) ⟨#[],args,[]⟩).memory:=
 laidMet_of_run' 8 (by kernel_rfl) (by kernel_rfl)
theorem weights_each {H:Type} {P:Program} {t:TypeId} {ts:List TypeId} {d:DataW H} {ds:List (DataW H)} (h:(DataW.weightsEach P (t::ts) (d::ds)).all (·≤reachBytes)=true):(∀ k∈d.weights P t,k≤reachBytes)∧(DataW.weightsEach P ts ds).all (·≤reachBytes)=true:=by
 rw[DataW.weightsEach,List.all_append,Bool.and_eq_true] at h
 exact⟨fun k hk=>by simpa using List.all_eq_true.1 h.1 k hk,h.2⟩
end Go.Proofs.YtpbjikncobnkjaaGreatDoor
