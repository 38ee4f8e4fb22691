/-
  Which names are units, and how long they are: the program's table, and the document's. (Made by tools/gen_ts.py.)
-/
import Derived.Test.YtcllimfaoajapaaDoorTsKinds
namespace Go.Proofs.YtcllimfaoajapaaDoor.Ts
open Go.RowKit

set_option maxHeartbeats 400000 in
theorem u_0 (w : World) : Calls Tryd.prog 45 #[.string ⟨#[117, 115]⟩] w fun e w' => e = .returned (.tuple #[.int .i64 1, .bool true]) ∧ w = w' := by
  go_enter Tryd.func45, Tryd.ntmps45
  go_wp2
  go_ret2
  exact ⟨rfl, rfl⟩
set_option maxHeartbeats 400000 in
theorem r_0 (w : World) : Calls Tryd.prog 21 #[.string ⟨#[117, 115]⟩] w fun e w' => e = .returned (.int .i64 1) ∧ w = w' := by
  go_enter Tryd.func21, Tryd.ntmps21
  go_wp2
  go_ret
  exact ⟨rfl, rfl⟩
set_option maxHeartbeats 400000 in
theorem u_1 (w : World) : Calls Tryd.prog 45 #[.string ⟨#[117, 115, 101, 99]⟩] w fun e w' => e = .returned (.tuple #[.int .i64 1, .bool true]) ∧ w = w' := by
  go_enter Tryd.func45, Tryd.ntmps45
  go_wp2
  go_ret2
  exact ⟨rfl, rfl⟩
set_option maxHeartbeats 400000 in
theorem r_1 (w : World) : Calls Tryd.prog 21 #[.string ⟨#[117, 115, 101, 99]⟩] w fun e w' => e = .returned (.int .i64 1) ∧ w = w' := by
  go_enter Tryd.func21, Tryd.ntmps21
  go_wp2
  go_ret
  exact ⟨rfl, rfl⟩
set_option maxHeartbeats 400000 in
theorem u_2 (w : World) : Calls Tryd.prog 45 #[.string ⟨#[109, 115]⟩] w fun e w' => e = .returned (.tuple #[.int .i64 1000, .bool true]) ∧ w = w' := by
  go_enter Tryd.func45, Tryd.ntmps45
  go_wp2
  go_ret2
  exact ⟨rfl, rfl⟩
set_option maxHeartbeats 400000 in
theorem r_2 (w : World) : Calls Tryd.prog 21 #[.string ⟨#[109, 115]⟩] w fun e w' => e = .returned (.int .i64 1000) ∧ w = w' := by
  go_enter Tryd.func21, Tryd.ntmps21
  go_wp2
  go_ret
  exact ⟨rfl, rfl⟩
set_option maxHeartbeats 400000 in
theorem u_3 (w : World) : Calls Tryd.prog 45 #[.string ⟨#[109, 115, 101, 99]⟩] w fun e w' => e = .returned (.tuple #[.int .i64 1000, .bool true]) ∧ w = w' := by
  go_enter Tryd.func45, Tryd.ntmps45
  go_wp2
  go_ret2
  exact ⟨rfl, rfl⟩
set_option maxHeartbeats 400000 in
theorem r_3 (w : World) : Calls Tryd.prog 21 #[.string ⟨#[109, 115, 101, 99]⟩] w fun e w' => e = .returned (.int .i64 1000) ∧ w = w' := by
  go_enter Tryd.func21, Tryd.ntmps21
  go_wp2
  go_ret
  exact ⟨rfl, rfl⟩
set_option maxHeartbeats 400000 in
theorem u_4 (w : World) : Calls Tryd.prog 45 #[.string ⟨#[]⟩] w fun e w' => e = .returned (.tuple #[.int .i64 1000000, .bool true]) ∧ w = w' := by
  go_enter Tryd.func45, Tryd.ntmps45
  go_wp2
  go_ret2
  exact ⟨rfl, rfl⟩
set_option maxHeartbeats 400000 in
theorem r_4 (w : World) : Calls Tryd.prog 21 #[.string ⟨#[]⟩] w fun e w' => e = .returned (.int .i64 1000000) ∧ w = w' := by
  go_enter Tryd.func21, Tryd.ntmps21
  go_wp2
  go_ret
  exact ⟨rfl, rfl⟩
set_option maxHeartbeats 400000 in
theorem u_5 (w : World) : Calls Tryd.prog 45 #[.string ⟨#[115]⟩] w fun e w' => e = .returned (.tuple #[.int .i64 1000000, .bool true]) ∧ w = w' := by
  go_enter Tryd.func45, Tryd.ntmps45
  go_wp2
  go_ret2
  exact ⟨rfl, rfl⟩
set_option maxHeartbeats 400000 in
theorem r_5 (w : World) : Calls Tryd.prog 21 #[.string ⟨#[115]⟩] w fun e w' => e = .returned (.int .i64 1000000) ∧ w = w' := by
  go_enter Tryd.func21, Tryd.ntmps21
  go_wp2
  go_ret
  exact ⟨rfl, rfl⟩
set_option maxHeartbeats 400000 in
theorem u_6 (w : World) : Calls Tryd.prog 45 #[.string ⟨#[115, 101, 99]⟩] w fun e w' => e = .returned (.tuple #[.int .i64 1000000, .bool true]) ∧ w = w' := by
  go_enter Tryd.func45, Tryd.ntmps45
  go_wp2
  go_ret2
  exact ⟨rfl, rfl⟩
set_option maxHeartbeats 400000 in
theorem r_6 (w : World) : Calls Tryd.prog 21 #[.string ⟨#[115, 101, 99]⟩] w fun e w' => e = .returned (.int .i64 1000000) ∧ w = w' := by
  go_enter Tryd.func21, Tryd.ntmps21
  go_wp2
  go_ret
  exact ⟨rfl, rfl⟩
set_option maxHeartbeats 400000 in
theorem u_7 (w : World) : Calls Tryd.prog 45 #[.string ⟨#[115, 101, 99, 111, 110, 100]⟩] w fun e w' => e = .returned (.tuple #[.int .i64 1000000, .bool true]) ∧ w = w' := by
  go_enter Tryd.func45, Tryd.ntmps45
  go_wp2
  go_ret2
  exact ⟨rfl, rfl⟩
set_option maxHeartbeats 400000 in
theorem r_7 (w : World) : Calls Tryd.prog 21 #[.string ⟨#[115, 101, 99, 111, 110, 100]⟩] w fun e w' => e = .returned (.int .i64 1000000) ∧ w = w' := by
  go_enter Tryd.func21, Tryd.ntmps21
  go_wp2
  go_ret
  exact ⟨rfl, rfl⟩
set_option maxHeartbeats 400000 in
theorem u_8 (w : World) : Calls Tryd.prog 45 #[.string ⟨#[115, 101, 99, 111, 110, 100, 115]⟩] w fun e w' => e = .returned (.tuple #[.int .i64 1000000, .bool true]) ∧ w = w' := by
  go_enter Tryd.func45, Tryd.ntmps45
  go_wp2
  go_ret2
  exact ⟨rfl, rfl⟩
set_option maxHeartbeats 400000 in
theorem r_8 (w : World) : Calls Tryd.prog 21 #[.string ⟨#[115, 101, 99, 111, 110, 100, 115]⟩] w fun e w' => e = .returned (.int .i64 1000000) ∧ w = w' := by
  go_enter Tryd.func21, Tryd.ntmps21
  go_wp2
  go_ret
  exact ⟨rfl, rfl⟩
set_option maxHeartbeats 400000 in
theorem u_9 (w : World) : Calls Tryd.prog 45 #[.string ⟨#[109]⟩] w fun e w' => e = .returned (.tuple #[.int .i64 60000000, .bool true]) ∧ w = w' := by
  go_enter Tryd.func45, Tryd.ntmps45
  go_wp2
  go_ret2
  exact ⟨rfl, rfl⟩
set_option maxHeartbeats 400000 in
theorem r_9 (w : World) : Calls Tryd.prog 21 #[.string ⟨#[109]⟩] w fun e w' => e = .returned (.int .i64 60000000) ∧ w = w' := by
  go_enter Tryd.func21, Tryd.ntmps21
  go_wp2
  go_ret
  exact ⟨rfl, rfl⟩
set_option maxHeartbeats 400000 in
theorem u_10 (w : World) : Calls Tryd.prog 45 #[.string ⟨#[109, 105, 110]⟩] w fun e w' => e = .returned (.tuple #[.int .i64 60000000, .bool true]) ∧ w = w' := by
  go_enter Tryd.func45, Tryd.ntmps45
  go_wp2
  go_ret2
  exact ⟨rfl, rfl⟩
set_option maxHeartbeats 400000 in
theorem r_10 (w : World) : Calls Tryd.prog 21 #[.string ⟨#[109, 105, 110]⟩] w fun e w' => e = .returned (.int .i64 60000000) ∧ w = w' := by
  go_enter Tryd.func21, Tryd.ntmps21
  go_wp2
  go_ret
  exact ⟨rfl, rfl⟩
set_option maxHeartbeats 400000 in
theorem u_11 (w : World) : Calls Tryd.prog 45 #[.string ⟨#[109, 105, 110, 117, 116, 101]⟩] w fun e w' => e = .returned (.tuple #[.int .i64 60000000, .bool true]) ∧ w = w' := by
  go_enter Tryd.func45, Tryd.ntmps45
  go_wp2
  go_ret2
  exact ⟨rfl, rfl⟩
set_option maxHeartbeats 400000 in
theorem r_11 (w : World) : Calls Tryd.prog 21 #[.string ⟨#[109, 105, 110, 117, 116, 101]⟩] w fun e w' => e = .returned (.int .i64 60000000) ∧ w = w' := by
  go_enter Tryd.func21, Tryd.ntmps21
  go_wp2
  go_ret
  exact ⟨rfl, rfl⟩
set_option maxHeartbeats 400000 in
theorem u_12 (w : World) : Calls Tryd.prog 45 #[.string ⟨#[109, 105, 110, 117, 116, 101, 115]⟩] w fun e w' => e = .returned (.tuple #[.int .i64 60000000, .bool true]) ∧ w = w' := by
  go_enter Tryd.func45, Tryd.ntmps45
  go_wp2
  go_ret2
  exact ⟨rfl, rfl⟩
set_option maxHeartbeats 400000 in
theorem r_12 (w : World) : Calls Tryd.prog 21 #[.string ⟨#[109, 105, 110, 117, 116, 101, 115]⟩] w fun e w' => e = .returned (.int .i64 60000000) ∧ w = w' := by
  go_enter Tryd.func21, Tryd.ntmps21
  go_wp2
  go_ret
  exact ⟨rfl, rfl⟩
set_option maxHeartbeats 400000 in
theorem u_13 (w : World) : Calls Tryd.prog 45 #[.string ⟨#[104]⟩] w fun e w' => e = .returned (.tuple #[.int .i64 3600000000, .bool true]) ∧ w = w' := by
  go_enter Tryd.func45, Tryd.ntmps45
  go_wp2
  go_ret2
  exact ⟨rfl, rfl⟩
set_option maxHeartbeats 400000 in
theorem r_13 (w : World) : Calls Tryd.prog 21 #[.string ⟨#[104]⟩] w fun e w' => e = .returned (.int .i64 3600000000) ∧ w = w' := by
  go_enter Tryd.func21, Tryd.ntmps21
  go_wp2
  go_ret
  exact ⟨rfl, rfl⟩
set_option maxHeartbeats 400000 in
theorem u_14 (w : World) : Calls Tryd.prog 45 #[.string ⟨#[104, 114]⟩] w fun e w' => e = .returned (.tuple #[.int .i64 3600000000, .bool true]) ∧ w = w' := by
  go_enter Tryd.func45, Tryd.ntmps45
  go_wp2
  go_ret2
  exact ⟨rfl, rfl⟩
set_option maxHeartbeats 400000 in
theorem r_14 (w : World) : Calls Tryd.prog 21 #[.string ⟨#[104, 114]⟩] w fun e w' => e = .returned (.int .i64 3600000000) ∧ w = w' := by
  go_enter Tryd.func21, Tryd.ntmps21
  go_wp2
  go_ret
  exact ⟨rfl, rfl⟩
set_option maxHeartbeats 400000 in
theorem u_15 (w : World) : Calls Tryd.prog 45 #[.string ⟨#[104, 111, 117, 114]⟩] w fun e w' => e = .returned (.tuple #[.int .i64 3600000000, .bool true]) ∧ w = w' := by
  go_enter Tryd.func45, Tryd.ntmps45
  go_wp2
  go_ret2
  exact ⟨rfl, rfl⟩
set_option maxHeartbeats 400000 in
theorem r_15 (w : World) : Calls Tryd.prog 21 #[.string ⟨#[104, 111, 117, 114]⟩] w fun e w' => e = .returned (.int .i64 3600000000) ∧ w = w' := by
  go_enter Tryd.func21, Tryd.ntmps21
  go_wp2
  go_ret
  exact ⟨rfl, rfl⟩
set_option maxHeartbeats 400000 in
theorem u_16 (w : World) : Calls Tryd.prog 45 #[.string ⟨#[104, 111, 117, 114, 115]⟩] w fun e w' => e = .returned (.tuple #[.int .i64 3600000000, .bool true]) ∧ w = w' := by
  go_enter Tryd.func45, Tryd.ntmps45
  go_wp2
  go_ret2
  exact ⟨rfl, rfl⟩
set_option maxHeartbeats 400000 in
theorem r_16 (w : World) : Calls Tryd.prog 21 #[.string ⟨#[104, 111, 117, 114, 115]⟩] w fun e w' => e = .returned (.int .i64 3600000000) ∧ w = w' := by
  go_enter Tryd.func21, Tryd.ntmps21
  go_wp2
  go_ret
  exact ⟨rfl, rfl⟩
set_option maxHeartbeats 400000 in
theorem u_17 (w : World) : Calls Tryd.prog 45 #[.string ⟨#[100]⟩] w fun e w' => e = .returned (.tuple #[.int .i64 86400000000, .bool true]) ∧ w = w' := by
  go_enter Tryd.func45, Tryd.ntmps45
  go_wp2
  go_ret2
  exact ⟨rfl, rfl⟩
set_option maxHeartbeats 400000 in
theorem r_17 (w : World) : Calls Tryd.prog 21 #[.string ⟨#[100]⟩] w fun e w' => e = .returned (.int .i64 86400000000) ∧ w = w' := by
  go_enter Tryd.func21, Tryd.ntmps21
  go_wp2
  go_ret
  exact ⟨rfl, rfl⟩
set_option maxHeartbeats 400000 in
theorem u_18 (w : World) : Calls Tryd.prog 45 #[.string ⟨#[100, 97, 121]⟩] w fun e w' => e = .returned (.tuple #[.int .i64 86400000000, .bool true]) ∧ w = w' := by
  go_enter Tryd.func45, Tryd.ntmps45
  go_wp2
  go_ret2
  exact ⟨rfl, rfl⟩
set_option maxHeartbeats 400000 in
theorem r_18 (w : World) : Calls Tryd.prog 21 #[.string ⟨#[100, 97, 121]⟩] w fun e w' => e = .returned (.int .i64 86400000000) ∧ w = w' := by
  go_enter Tryd.func21, Tryd.ntmps21
  go_wp2
  go_ret
  exact ⟨rfl, rfl⟩
set_option maxHeartbeats 400000 in
theorem u_19 (w : World) : Calls Tryd.prog 45 #[.string ⟨#[100, 97, 121, 115]⟩] w fun e w' => e = .returned (.tuple #[.int .i64 86400000000, .bool true]) ∧ w = w' := by
  go_enter Tryd.func45, Tryd.ntmps45
  go_wp2
  go_ret2
  exact ⟨rfl, rfl⟩
set_option maxHeartbeats 400000 in
theorem r_19 (w : World) : Calls Tryd.prog 21 #[.string ⟨#[100, 97, 121, 115]⟩] w fun e w' => e = .returned (.int .i64 86400000000) ∧ w = w' := by
  go_enter Tryd.func21, Tryd.ntmps21
  go_wp2
  go_ret
  exact ⟨rfl, rfl⟩
set_option maxHeartbeats 400000 in
theorem u_20 (w : World) : Calls Tryd.prog 45 #[.string ⟨#[119]⟩] w fun e w' => e = .returned (.tuple #[.int .i64 604800000000, .bool true]) ∧ w = w' := by
  go_enter Tryd.func45, Tryd.ntmps45
  go_wp2
  go_ret2
  exact ⟨rfl, rfl⟩
set_option maxHeartbeats 400000 in
theorem r_20 (w : World) : Calls Tryd.prog 21 #[.string ⟨#[119]⟩] w fun e w' => e = .returned (.int .i64 604800000000) ∧ w = w' := by
  go_enter Tryd.func21, Tryd.ntmps21
  go_wp2
  go_ret
  exact ⟨rfl, rfl⟩
set_option maxHeartbeats 400000 in
theorem u_21 (w : World) : Calls Tryd.prog 45 #[.string ⟨#[119, 101, 101, 107]⟩] w fun e w' => e = .returned (.tuple #[.int .i64 604800000000, .bool true]) ∧ w = w' := by
  go_enter Tryd.func45, Tryd.ntmps45
  go_wp2
  go_ret2
  exact ⟨rfl, rfl⟩
set_option maxHeartbeats 400000 in
theorem r_21 (w : World) : Calls Tryd.prog 21 #[.string ⟨#[119, 101, 101, 107]⟩] w fun e w' => e = .returned (.int .i64 604800000000) ∧ w = w' := by
  go_enter Tryd.func21, Tryd.ntmps21
  go_wp2
  go_ret
  exact ⟨rfl, rfl⟩
set_option maxHeartbeats 400000 in
theorem u_22 (w : World) : Calls Tryd.prog 45 #[.string ⟨#[119, 101, 101, 107, 115]⟩] w fun e w' => e = .returned (.tuple #[.int .i64 604800000000, .bool true]) ∧ w = w' := by
  go_enter Tryd.func45, Tryd.ntmps45
  go_wp2
  go_ret2
  exact ⟨rfl, rfl⟩
set_option maxHeartbeats 400000 in
theorem r_22 (w : World) : Calls Tryd.prog 21 #[.string ⟨#[119, 101, 101, 107, 115]⟩] w fun e w' => e = .returned (.int .i64 604800000000) ∧ w = w' := by
  go_enter Tryd.func21, Tryd.ntmps21
  go_wp2
  go_ret
  exact ⟨rfl, rfl⟩
set_option maxHeartbeats 400000 in
theorem u_23 (w : World) : Calls Tryd.prog 45 #[.string ⟨#[77]⟩] w fun e w' => e = .returned (.tuple #[.int .i64 2629800000000, .bool true]) ∧ w = w' := by
  go_enter Tryd.func45, Tryd.ntmps45
  go_wp2
  go_ret2
  exact ⟨rfl, rfl⟩
set_option maxHeartbeats 400000 in
theorem r_23 (w : World) : Calls Tryd.prog 21 #[.string ⟨#[77]⟩] w fun e w' => e = .returned (.int .i64 2629800000000) ∧ w = w' := by
  go_enter Tryd.func21, Tryd.ntmps21
  go_wp2
  go_ret
  exact ⟨rfl, rfl⟩
set_option maxHeartbeats 400000 in
theorem u_24 (w : World) : Calls Tryd.prog 45 #[.string ⟨#[109, 111, 110, 116, 104]⟩] w fun e w' => e = .returned (.tuple #[.int .i64 2629800000000, .bool true]) ∧ w = w' := by
  go_enter Tryd.func45, Tryd.ntmps45
  go_wp2
  go_ret2
  exact ⟨rfl, rfl⟩
set_option maxHeartbeats 400000 in
theorem r_24 (w : World) : Calls Tryd.prog 21 #[.string ⟨#[109, 111, 110, 116, 104]⟩] w fun e w' => e = .returned (.int .i64 2629800000000) ∧ w = w' := by
  go_enter Tryd.func21, Tryd.ntmps21
  go_wp2
  go_ret
  exact ⟨rfl, rfl⟩
set_option maxHeartbeats 400000 in
theorem u_25 (w : World) : Calls Tryd.prog 45 #[.string ⟨#[109, 111, 110, 116, 104, 115]⟩] w fun e w' => e = .returned (.tuple #[.int .i64 2629800000000, .bool true]) ∧ w = w' := by
  go_enter Tryd.func45, Tryd.ntmps45
  go_wp2
  go_ret2
  exact ⟨rfl, rfl⟩
set_option maxHeartbeats 400000 in
theorem r_25 (w : World) : Calls Tryd.prog 21 #[.string ⟨#[109, 111, 110, 116, 104, 115]⟩] w fun e w' => e = .returned (.int .i64 2629800000000) ∧ w = w' := by
  go_enter Tryd.func21, Tryd.ntmps21
  go_wp2
  go_ret
  exact ⟨rfl, rfl⟩
set_option maxHeartbeats 400000 in
theorem u_26 (w : World) : Calls Tryd.prog 45 #[.string ⟨#[121]⟩] w fun e w' => e = .returned (.tuple #[.int .i64 31557600000000, .bool true]) ∧ w = w' := by
  go_enter Tryd.func45, Tryd.ntmps45
  go_wp2
  go_ret2
  exact ⟨rfl, rfl⟩
set_option maxHeartbeats 400000 in
theorem r_26 (w : World) : Calls Tryd.prog 21 #[.string ⟨#[121]⟩] w fun e w' => e = .returned (.int .i64 31557600000000) ∧ w = w' := by
  go_enter Tryd.func21, Tryd.ntmps21
  go_wp2
  go_ret
  exact ⟨rfl, rfl⟩
set_option maxHeartbeats 400000 in
theorem u_27 (w : World) : Calls Tryd.prog 45 #[.string ⟨#[121, 101, 97, 114]⟩] w fun e w' => e = .returned (.tuple #[.int .i64 31557600000000, .bool true]) ∧ w = w' := by
  go_enter Tryd.func45, Tryd.ntmps45
  go_wp2
  go_ret2
  exact ⟨rfl, rfl⟩
set_option maxHeartbeats 400000 in
theorem r_27 (w : World) : Calls Tryd.prog 21 #[.string ⟨#[121, 101, 97, 114]⟩] w fun e w' => e = .returned (.int .i64 31557600000000) ∧ w = w' := by
  go_enter Tryd.func21, Tryd.ntmps21
  go_wp2
  go_ret
  exact ⟨rfl, rfl⟩
set_option maxHeartbeats 400000 in
theorem u_28 (w : World) : Calls Tryd.prog 45 #[.string ⟨#[121, 101, 97, 114, 115]⟩] w fun e w' => e = .returned (.tuple #[.int .i64 31557600000000, .bool true]) ∧ w = w' := by
  go_enter Tryd.func45, Tryd.ntmps45
  go_wp2
  go_ret2
  exact ⟨rfl, rfl⟩
set_option maxHeartbeats 400000 in
theorem r_28 (w : World) : Calls Tryd.prog 21 #[.string ⟨#[121, 101, 97, 114, 115]⟩] w fun e w' => e = .returned (.int .i64 31557600000000) ∧ w = w' := by
  go_enter Tryd.func21, Tryd.ntmps21
  go_wp2
  go_ret
  exact ⟨rfl, rfl⟩

theorem name_ne {s : ByteArray} {l : List UInt8} (h : s.data.toList ≠ l) : (s.toList == l) = false := by
  rw [beq_eq_false_iff_ne, Lib.toList_data]; exact h
set_option maxHeartbeats 1000000 in
theorem u_none (s : ByteArray) (w : World) (h0 : (s.toList == [117, 115]) = false) (h1 : (s.toList == [117, 115, 101, 99]) = false) (h2 : (s.toList == [109, 115]) = false) (h3 : (s.toList == [109, 115, 101, 99]) = false) (h4 : s.toList.isEmpty = false) (h5 : (s.toList == [115]) = false) (h6 : (s.toList == [115, 101, 99]) = false) (h7 : (s.toList == [115, 101, 99, 111, 110, 100]) = false) (h8 : (s.toList == [115, 101, 99, 111, 110, 100, 115]) = false) (h9 : (s.toList == [109]) = false) (h10 : (s.toList == [109, 105, 110]) = false) (h11 : (s.toList == [109, 105, 110, 117, 116, 101]) = false) (h12 : (s.toList == [109, 105, 110, 117, 116, 101, 115]) = false) (h13 : (s.toList == [104]) = false) (h14 : (s.toList == [104, 114]) = false) (h15 : (s.toList == [104, 111, 117, 114]) = false) (h16 : (s.toList == [104, 111, 117, 114, 115]) = false) (h17 : (s.toList == [100]) = false) (h18 : (s.toList == [100, 97, 121]) = false) (h19 : (s.toList == [100, 97, 121, 115]) = false) (h20 : (s.toList == [119]) = false) (h21 : (s.toList == [119, 101, 101, 107]) = false) (h22 : (s.toList == [119, 101, 101, 107, 115]) = false) (h23 : (s.toList == [77]) = false) (h24 : (s.toList == [109, 111, 110, 116, 104]) = false) (h25 : (s.toList == [109, 111, 110, 116, 104, 115]) = false) (h26 : (s.toList == [121]) = false) (h27 : (s.toList == [121, 101, 97, 114]) = false) (h28 : (s.toList == [121, 101, 97, 114, 115]) = false) : Calls Tryd.prog 45 #[.string s] w fun e w' => e = .returned (.tuple #[.int .i64 0, .bool false]) ∧ w = w' := by
  go_enter Tryd.func45, Tryd.ntmps45
  go_wp2
  go_ret2
  exact ⟨rfl, rfl⟩
set_option maxHeartbeats 1000000 in
theorem r_none (s : ByteArray) (w : World) (h0 : (s.toList == [117, 115]) = false) (h1 : (s.toList == [117, 115, 101, 99]) = false) (h2 : (s.toList == [109, 115]) = false) (h3 : (s.toList == [109, 115, 101, 99]) = false) (h4 : s.toList.isEmpty = false) (h5 : (s.toList == [115]) = false) (h6 : (s.toList == [115, 101, 99]) = false) (h7 : (s.toList == [115, 101, 99, 111, 110, 100]) = false) (h8 : (s.toList == [115, 101, 99, 111, 110, 100, 115]) = false) (h9 : (s.toList == [109]) = false) (h10 : (s.toList == [109, 105, 110]) = false) (h11 : (s.toList == [109, 105, 110, 117, 116, 101]) = false) (h12 : (s.toList == [109, 105, 110, 117, 116, 101, 115]) = false) (h13 : (s.toList == [104]) = false) (h14 : (s.toList == [104, 114]) = false) (h15 : (s.toList == [104, 111, 117, 114]) = false) (h16 : (s.toList == [104, 111, 117, 114, 115]) = false) (h17 : (s.toList == [100]) = false) (h18 : (s.toList == [100, 97, 121]) = false) (h19 : (s.toList == [100, 97, 121, 115]) = false) (h20 : (s.toList == [119]) = false) (h21 : (s.toList == [119, 101, 101, 107]) = false) (h22 : (s.toList == [119, 101, 101, 107, 115]) = false) (h23 : (s.toList == [77]) = false) (h24 : (s.toList == [109, 111, 110, 116, 104]) = false) (h25 : (s.toList == [109, 111, 110, 116, 104, 115]) = false) (h26 : (s.toList == [121]) = false) (h27 : (s.toList == [121, 101, 97, 114]) = false) (h28 : (s.toList == [121, 101, 97, 114, 115]) = false) : Calls Tryd.prog 21 #[.string s] w fun e w' => e = .returned (.int .i64 0) ∧ w = w' := by
  go_enter Tryd.func21, Tryd.ntmps21
  go_wp2
  go_ret
  exact ⟨rfl, rfl⟩
theorem u_any (s : ByteArray) (w : World) : Calls Tryd.prog 45 #[.string s] w fun e w' => e = .returned (.tuple #[.int .i64 (unitOf s.data.toList : Int), .bool (unitOf s.data.toList != 0)]) ∧ w = w' := by
  by_cases h0 : s.data.toList = [117, 115]
  · rw [mk_of s _ h0]; exact u_0 w
  by_cases h1 : s.data.toList = [117, 115, 101, 99]
  · rw [mk_of s _ h1]; exact u_1 w
  by_cases h2 : s.data.toList = [109, 115]
  · rw [mk_of s _ h2]; exact u_2 w
  by_cases h3 : s.data.toList = [109, 115, 101, 99]
  · rw [mk_of s _ h3]; exact u_3 w
  by_cases h4 : s.data.toList = []
  · rw [mk_of s _ h4]; exact u_4 w
  by_cases h5 : s.data.toList = [115]
  · rw [mk_of s _ h5]; exact u_5 w
  by_cases h6 : s.data.toList = [115, 101, 99]
  · rw [mk_of s _ h6]; exact u_6 w
  by_cases h7 : s.data.toList = [115, 101, 99, 111, 110, 100]
  · rw [mk_of s _ h7]; exact u_7 w
  by_cases h8 : s.data.toList = [115, 101, 99, 111, 110, 100, 115]
  · rw [mk_of s _ h8]; exact u_8 w
  by_cases h9 : s.data.toList = [109]
  · rw [mk_of s _ h9]; exact u_9 w
  by_cases h10 : s.data.toList = [109, 105, 110]
  · rw [mk_of s _ h10]; exact u_10 w
  by_cases h11 : s.data.toList = [109, 105, 110, 117, 116, 101]
  · rw [mk_of s _ h11]; exact u_11 w
  by_cases h12 : s.data.toList = [109, 105, 110, 117, 116, 101, 115]
  · rw [mk_of s _ h12]; exact u_12 w
  by_cases h13 : s.data.toList = [104]
  · rw [mk_of s _ h13]; exact u_13 w
  by_cases h14 : s.data.toList = [104, 114]
  · rw [mk_of s _ h14]; exact u_14 w
  by_cases h15 : s.data.toList = [104, 111, 117, 114]
  · rw [mk_of s _ h15]; exact u_15 w
  by_cases h16 : s.data.toList = [104, 111, 117, 114, 115]
  · rw [mk_of s _ h16]; exact u_16 w
  by_cases h17 : s.data.toList = [100]
  · rw [mk_of s _ h17]; exact u_17 w
  by_cases h18 : s.data.toList = [100, 97, 121]
  · rw [mk_of s _ h18]; exact u_18 w
  by_cases h19 : s.data.toList = [100, 97, 121, 115]
  · rw [mk_of s _ h19]; exact u_19 w
  by_cases h20 : s.data.toList = [119]
  · rw [mk_of s _ h20]; exact u_20 w
  by_cases h21 : s.data.toList = [119, 101, 101, 107]
  · rw [mk_of s _ h21]; exact u_21 w
  by_cases h22 : s.data.toList = [119, 101, 101, 107, 115]
  · rw [mk_of s _ h22]; exact u_22 w
  by_cases h23 : s.data.toList = [77]
  · rw [mk_of s _ h23]; exact u_23 w
  by_cases h24 : s.data.toList = [109, 111, 110, 116, 104]
  · rw [mk_of s _ h24]; exact u_24 w
  by_cases h25 : s.data.toList = [109, 111, 110, 116, 104, 115]
  · rw [mk_of s _ h25]; exact u_25 w
  by_cases h26 : s.data.toList = [121]
  · rw [mk_of s _ h26]; exact u_26 w
  by_cases h27 : s.data.toList = [121, 101, 97, 114]
  · rw [mk_of s _ h27]; exact u_27 w
  by_cases h28 : s.data.toList = [121, 101, 97, 114, 115]
  · rw [mk_of s _ h28]; exact u_28 w
  have hz : unitOf s.data.toList = 0 := by unfold unitOf; simp only [h0, h1, h2, h3, h4, h5, h6, h7, h8, h9, h10, h11, h12, h13, h14, h15, h16, h17, h18, h19, h20, h21, h22, h23, h24, h25, h26, h27, h28, or_self, if_false]
  rw [hz]
  exact u_none s w (name_ne h0) (name_ne h1) (name_ne h2) (name_ne h3) (by have := name_ne h4; rw [beq_eq_false_iff_ne] at this; simpa using this) (name_ne h5) (name_ne h6) (name_ne h7) (name_ne h8) (name_ne h9) (name_ne h10) (name_ne h11) (name_ne h12) (name_ne h13) (name_ne h14) (name_ne h15) (name_ne h16) (name_ne h17) (name_ne h18) (name_ne h19) (name_ne h20) (name_ne h21) (name_ne h22) (name_ne h23) (name_ne h24) (name_ne h25) (name_ne h26) (name_ne h27) (name_ne h28)
theorem r_any (s : ByteArray) (w : World) : Calls Tryd.prog 21 #[.string s] w fun e w' => e = .returned (.int .i64 (unitOf s.data.toList : Int)) ∧ w = w' := by
  by_cases h0 : s.data.toList = [117, 115]
  · rw [mk_of s _ h0]; exact r_0 w
  by_cases h1 : s.data.toList = [117, 115, 101, 99]
  · rw [mk_of s _ h1]; exact r_1 w
  by_cases h2 : s.data.toList = [109, 115]
  · rw [mk_of s _ h2]; exact r_2 w
  by_cases h3 : s.data.toList = [109, 115, 101, 99]
  · rw [mk_of s _ h3]; exact r_3 w
  by_cases h4 : s.data.toList = []
  · rw [mk_of s _ h4]; exact r_4 w
  by_cases h5 : s.data.toList = [115]
  · rw [mk_of s _ h5]; exact r_5 w
  by_cases h6 : s.data.toList = [115, 101, 99]
  · rw [mk_of s _ h6]; exact r_6 w
  by_cases h7 : s.data.toList = [115, 101, 99, 111, 110, 100]
  · rw [mk_of s _ h7]; exact r_7 w
  by_cases h8 : s.data.toList = [115, 101, 99, 111, 110, 100, 115]
  · rw [mk_of s _ h8]; exact r_8 w
  by_cases h9 : s.data.toList = [109]
  · rw [mk_of s _ h9]; exact r_9 w
  by_cases h10 : s.data.toList = [109, 105, 110]
  · rw [mk_of s _ h10]; exact r_10 w
  by_cases h11 : s.data.toList = [109, 105, 110, 117, 116, 101]
  · rw [mk_of s _ h11]; exact r_11 w
  by_cases h12 : s.data.toList = [109, 105, 110, 117, 116, 101, 115]
  · rw [mk_of s _ h12]; exact r_12 w
  by_cases h13 : s.data.toList = [104]
  · rw [mk_of s _ h13]; exact r_13 w
  by_cases h14 : s.data.toList = [104, 114]
  · rw [mk_of s _ h14]; exact r_14 w
  by_cases h15 : s.data.toList = [104, 111, 117, 114]
  · rw [mk_of s _ h15]; exact r_15 w
  by_cases h16 : s.data.toList = [104, 111, 117, 114, 115]
  · rw [mk_of s _ h16]; exact r_16 w
  by_cases h17 : s.data.toList = [100]
  · rw [mk_of s _ h17]; exact r_17 w
  by_cases h18 : s.data.toList = [100, 97, 121]
  · rw [mk_of s _ h18]; exact r_18 w
  by_cases h19 : s.data.toList = [100, 97, 121, 115]
  · rw [mk_of s _ h19]; exact r_19 w
  by_cases h20 : s.data.toList = [119]
  · rw [mk_of s _ h20]; exact r_20 w
  by_cases h21 : s.data.toList = [119, 101, 101, 107]
  · rw [mk_of s _ h21]; exact r_21 w
  by_cases h22 : s.data.toList = [119, 101, 101, 107, 115]
  · rw [mk_of s _ h22]; exact r_22 w
  by_cases h23 : s.data.toList = [77]
  · rw [mk_of s _ h23]; exact r_23 w
  by_cases h24 : s.data.toList = [109, 111, 110, 116, 104]
  · rw [mk_of s _ h24]; exact r_24 w
  by_cases h25 : s.data.toList = [109, 111, 110, 116, 104, 115]
  · rw [mk_of s _ h25]; exact r_25 w
  by_cases h26 : s.data.toList = [121]
  · rw [mk_of s _ h26]; exact r_26 w
  by_cases h27 : s.data.toList = [121, 101, 97, 114]
  · rw [mk_of s _ h27]; exact r_27 w
  by_cases h28 : s.data.toList = [121, 101, 97, 114, 115]
  · rw [mk_of s _ h28]; exact r_28 w
  have hz : unitOf s.data.toList = 0 := by unfold unitOf; simp only [h0, h1, h2, h3, h4, h5, h6, h7, h8, h9, h10, h11, h12, h13, h14, h15, h16, h17, h18, h19, h20, h21, h22, h23, h24, h25, h26, h27, h28, or_self, if_false]
  rw [hz]
  exact r_none s w (name_ne h0) (name_ne h1) (name_ne h2) (name_ne h3) (by have := name_ne h4; rw [beq_eq_false_iff_ne] at this; simpa using this) (name_ne h5) (name_ne h6) (name_ne h7) (name_ne h8) (name_ne h9) (name_ne h10) (name_ne h11) (name_ne h12) (name_ne h13) (name_ne h14) (name_ne h15) (name_ne h16) (name_ne h17) (name_ne h18) (name_ne h19) (name_ne h20) (name_ne h21) (name_ne h22) (name_ne h23) (name_ne h24) (name_ne h25) (name_ne h26) (name_ne h27) (name_ne h28)
end Go.Proofs.YtcllimfaoajapaaDoor.Ts
