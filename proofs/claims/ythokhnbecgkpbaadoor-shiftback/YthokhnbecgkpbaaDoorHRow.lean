/- The program's Ref by rows that come or go. -/
import Derived.Test.YthokhnbecgkpbaaDoorHBkM
namespace Go.Proofs.YthokhnbecgkpbaaDoor
open Go.RowKit

set_option maxRecDepth 100000 in
theorem row1_off (ao : Option Addr) (cap : Nat) (L : List ByteArray) (sh : ByteArray) (At N : Int) (nm own : ByteArray) (t u : ByteArray) (fx ar : Bool) (r1 c1 : Int) (x1 y1 : Bool) (r2 c2 : Int) (x2 y2 : Bool) (w : World) (h : SsAt w ao L) (hl : L.length ≤ 140737488355328) (ht : t.size ≤ 140737488355328) (hu : u.size ≤ 140737488355328)
    (hc : chkS L 1 sh At N nm = 0) (hr : chkF t u fx ar r1 c1 r2 c2 x2 y2 = 0) (ho : (u.toList.isEmpty && onB t sh (alkF own sh)) = false) :
    Calls Tryd.prog 21 #[.slice ao L.length cap, .agg #[.int .i64 1, .string sh, .int .i64 At, .int .i64 N, .string nm], .string own, (.agg #[.string t, .string u, .bool fx, .bool ar, .int .i64 r1, .int .i64 c1, .bool x1, .bool y1, .int .i64 r2, .int .i64 c2, .bool x2, .bool y2])] w fun e w' => e = .returned (.tuple #[(.agg #[.string t, .string u, .bool fx, .bool ar, .int .i64 r1, .int .i64 c1, .bool x1, .bool y1, .int .i64 r2, .int .i64 c2, .bool x2, .bool y2]), .bool true]) ∧ Fr noB w w' := by
  have hs := chk_span hc (by omega)
  unfold limF at hs
  rw [if_pos (by decide)] at hs
  have hb := chk_ref hr
  refine pref_of ao cap L 1 sh At N nm own t u fx ar r1 c1 x1 y1 r2 c2 x2 y2 t u fx ar r1 c1 x1 y1 r2 c2 x2 y2 true w h hl (by omega) (fun W => ?_)
  rw [show (chkS L 1 sh At N nm == 0) = true by rw [hc]; rfl]
  refine cref_c ao L.length cap 1 sh At N nm (alkF own sh) t u fx ar r1 c1 x1 y1 r2 c2 x2 y2 t u fx ar r1 c1 x1 y1 r2 c2 x2 y2 W ht hu hr (fun W' => ?_)
  cases he : u.toList.isEmpty with
  | false => exact changed_1to ao L.length cap sh At N nm true (alkF own sh) t u fx ar r1 c1 x1 y1 r2 c2 x2 y2 W' he
  | true =>
    rw [he, Bool.true_and] at ho
    exact changed_1off ao L.length cap sh At N nm true (alkF own sh) t u fx ar r1 c1 x1 y1 r2 c2 x2 y2 W' he ho
set_option maxRecDepth 100000 in
theorem row1_on (ao : Option Addr) (cap : Nat) (L : List ByteArray) (sh : ByteArray) (At N : Int) (nm own : ByteArray) (t u : ByteArray) (fx ar : Bool) (r1 c1 : Int) (x1 y1 : Bool) (r2 c2 : Int) (x2 y2 : Bool) (w : World) (h : SsAt w ao L) (hl : L.length ≤ 140737488355328) (ht : t.size ≤ 140737488355328) (hu : u.size ≤ 140737488355328)
    (hc : chkS L 1 sh At N nm = 0) (hr : chkF t u fx ar r1 c1 r2 c2 x2 y2 = 0) (he : u.toList.isEmpty = true) (ho : onB t sh (alkF own sh) = true) (ha : movB At N 1048576 true r1 = true) (hz : ar = true → movB At N 1048576 true r2 = true) :
    Calls Tryd.prog 21 #[.slice ao L.length cap, .agg #[.int .i64 1, .string sh, .int .i64 At, .int .i64 N, .string nm], .string own, (.agg #[.string t, .string u, .bool fx, .bool ar, .int .i64 r1, .int .i64 c1, .bool x1, .bool y1, .int .i64 r2, .int .i64 c2, .bool x2, .bool y2])] w fun e w' => e = .returned (.tuple #[(.agg #[.string t, .string u, .bool fx, .bool ar, .int .i64 (movI At N true r1), .int .i64 c1, .bool x1, .bool y1, .int .i64 (if ar = true then movI At N true r2 else r2), .int .i64 c2, .bool x2, .bool y2]), .bool true]) ∧ Fr noB w w' := by
  have hs := chk_span hc (by omega)
  unfold limF at hs
  rw [if_pos (by decide)] at hs
  have hb := chk_ref hr
  obtain ⟨n1, n2, n3⟩ := nw_moved (a := r1) (b := r2) ha hz
  refine pref_of ao cap L 1 sh At N nm own t u fx ar r1 c1 x1 y1 r2 c2 x2 y2 t u fx ar (movI At N true r1) c1 x1 y1 (if ar = true then movI At N true r2 else r2) c2 x2 y2 true w h hl (by omega) (fun W => ?_)
  rw [show (chkS L 1 sh At N nm == 0) = true by rw [hc]; rfl]
  refine cref_c ao L.length cap 1 sh At N nm (alkF own sh) t u fx ar r1 c1 x1 y1 r2 c2 x2 y2 t u fx ar (movI At N true r1) c1 x1 y1 (if ar = true then movI At N true r2 else r2) c2 x2 y2 W ht hu hr (fun W' => ?_)
  have H := changed_1on ao L.length cap sh At N nm true (alkF own sh) t u fx ar r1 c1 x1 y1 r2 c2 x2 y2 W' (by omega) (by omega) (by omega) (by omega) (by omega) (by omega) (by omega) (by omega) he ho n1
  rw [n2, n3] at H
  exact H
set_option maxRecDepth 100000 in
theorem row2_off (ao : Option Addr) (cap : Nat) (L : List ByteArray) (sh : ByteArray) (At N : Int) (nm own : ByteArray) (t u : ByteArray) (fx ar : Bool) (r1 c1 : Int) (x1 y1 : Bool) (r2 c2 : Int) (x2 y2 : Bool) (w : World) (h : SsAt w ao L) (hl : L.length ≤ 140737488355328) (ht : t.size ≤ 140737488355328) (hu : u.size ≤ 140737488355328)
    (hc : chkS L 2 sh At N nm = 0) (hr : chkF t u fx ar r1 c1 r2 c2 x2 y2 = 0) (ho : (u.toList.isEmpty && onB t sh (alkF own sh)) = false) :
    Calls Tryd.prog 21 #[.slice ao L.length cap, .agg #[.int .i64 2, .string sh, .int .i64 At, .int .i64 N, .string nm], .string own, (.agg #[.string t, .string u, .bool fx, .bool ar, .int .i64 r1, .int .i64 c1, .bool x1, .bool y1, .int .i64 r2, .int .i64 c2, .bool x2, .bool y2])] w fun e w' => e = .returned (.tuple #[(.agg #[.string t, .string u, .bool fx, .bool ar, .int .i64 r1, .int .i64 c1, .bool x1, .bool y1, .int .i64 r2, .int .i64 c2, .bool x2, .bool y2]), .bool true]) ∧ Fr noB w w' := by
  have hs := chk_span hc (by omega)
  unfold limF at hs
  rw [if_pos (by decide)] at hs
  have hb := chk_ref hr
  refine pref_of ao cap L 2 sh At N nm own t u fx ar r1 c1 x1 y1 r2 c2 x2 y2 t u fx ar r1 c1 x1 y1 r2 c2 x2 y2 true w h hl (by omega) (fun W => ?_)
  rw [show (chkS L 2 sh At N nm == 0) = true by rw [hc]; rfl]
  refine cref_c ao L.length cap 2 sh At N nm (alkF own sh) t u fx ar r1 c1 x1 y1 r2 c2 x2 y2 t u fx ar r1 c1 x1 y1 r2 c2 x2 y2 W ht hu hr (fun W' => ?_)
  cases he : u.toList.isEmpty with
  | false => exact changed_2to ao L.length cap sh At N nm true (alkF own sh) t u fx ar r1 c1 x1 y1 r2 c2 x2 y2 W' he
  | true =>
    rw [he, Bool.true_and] at ho
    exact changed_2off ao L.length cap sh At N nm true (alkF own sh) t u fx ar r1 c1 x1 y1 r2 c2 x2 y2 W' he ho
set_option maxRecDepth 100000 in
theorem row2_on (ao : Option Addr) (cap : Nat) (L : List ByteArray) (sh : ByteArray) (At N : Int) (nm own : ByteArray) (t u : ByteArray) (fx ar : Bool) (r1 c1 : Int) (x1 y1 : Bool) (r2 c2 : Int) (x2 y2 : Bool) (w : World) (h : SsAt w ao L) (hl : L.length ≤ 140737488355328) (ht : t.size ≤ 140737488355328) (hu : u.size ≤ 140737488355328)
    (hc : chkS L 2 sh At N nm = 0) (hr : chkF t u fx ar r1 c1 r2 c2 x2 y2 = 0) (he : u.toList.isEmpty = true) (ho : onB t sh (alkF own sh) = true) (ha : movB At N 1048576 false r1 = true) (hz : ar = true → movB At N 1048576 false r2 = true) :
    Calls Tryd.prog 21 #[.slice ao L.length cap, .agg #[.int .i64 2, .string sh, .int .i64 At, .int .i64 N, .string nm], .string own, (.agg #[.string t, .string u, .bool fx, .bool ar, .int .i64 r1, .int .i64 c1, .bool x1, .bool y1, .int .i64 r2, .int .i64 c2, .bool x2, .bool y2])] w fun e w' => e = .returned (.tuple #[(.agg #[.string t, .string u, .bool fx, .bool ar, .int .i64 (movI At N false r1), .int .i64 c1, .bool x1, .bool y1, .int .i64 (if ar = true then movI At N false r2 else r2), .int .i64 c2, .bool x2, .bool y2]), .bool true]) ∧ Fr noB w w' := by
  have hs := chk_span hc (by omega)
  unfold limF at hs
  rw [if_pos (by decide)] at hs
  have hb := chk_ref hr
  obtain ⟨n1, n2, n3⟩ := nw_moved (a := r1) (b := r2) ha hz
  refine pref_of ao cap L 2 sh At N nm own t u fx ar r1 c1 x1 y1 r2 c2 x2 y2 t u fx ar (movI At N false r1) c1 x1 y1 (if ar = true then movI At N false r2 else r2) c2 x2 y2 true w h hl (by omega) (fun W => ?_)
  rw [show (chkS L 2 sh At N nm == 0) = true by rw [hc]; rfl]
  refine cref_c ao L.length cap 2 sh At N nm (alkF own sh) t u fx ar r1 c1 x1 y1 r2 c2 x2 y2 t u fx ar (movI At N false r1) c1 x1 y1 (if ar = true then movI At N false r2 else r2) c2 x2 y2 W ht hu hr (fun W' => ?_)
  have H := changed_2on ao L.length cap sh At N nm true (alkF own sh) t u fx ar r1 c1 x1 y1 r2 c2 x2 y2 W' (by omega) (by omega) (by omega) (by omega) (by omega) (by omega) (by omega) (by omega) he ho n1
  rw [n2, n3] at H
  exact H
#print axioms row1_on
#print axioms row2_on
end Go.Proofs.YthokhnbecgkpbaaDoor
