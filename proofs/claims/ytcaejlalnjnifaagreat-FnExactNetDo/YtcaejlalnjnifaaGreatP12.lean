import Derived.Test.YtcaejlalnjnifaaGreatP7
set_option maxHeartbeats 8000000
set_option maxRecDepth 2000
open Go.Value renaming slice->V,int->Ao
open Option renaming none->I,some->M
open Go.RowKit renaming Hid->H,Below->Ab
open Go.Addr renaming mk->Q
open Go.Obj renaming cells->J
open Go renaming World->Ad,maxLen->Au
open Go.IntKind renaming i64->Ar
open Go.Proofs.Tryz
open Go.ChangeShapes Go.WideShapes Go.ChangeAt Go.RowKit
namespace Go.Proofs.YtcaejlalnjnifaaGreat
open Gs (U)
def lby (x:BitVec 64) (i:Nat):Nat:=x.toNat / 2 ^ (8*(7-i)) % 256
def lx (x:BitVec 64):List Int:=(List.range 8).map fun i=>((lby x i:Nat):Int)
theorem jJl (x:BitVec 64):(lx x).length=8:=by simp[lx]
theorem jRf (x:BitVec 64) (k:Nat) (h:k<8):(lx x).getD k 0=((lby x k:Nat):Int):=by
 simp[lx,List.getD,h]
theorem jOj (x:BitVec 64) (j:Nat):IntKind.u8.wrap (U x / 2 ^ j)=((x.toNat / 2 ^ j % 256:Nat):Int):=by
 unfold U;rw[Di];rw[show ((x.toNat:Int) / 2 ^ j)=((x.toNat / 2 ^ j:Nat):Int) by simp];omega
theorem XP (x:BitVec 64) (w:Ad):CB 231 #[Ao .u64 (U x)] w (strOfNums (lx x)):=by
 obtain⟨i0,hi,g0,h0,j0⟩:=Ch Tryz.infoByte;obtain⟨xs,HX⟩:=nmH (lx x);have HL:H (xs.length=8):=by show _=_;rw[HX.out,jJl]
 go_enter func231,ntmps231
 go_wp2_with (at_make;refine Cx _ rfl _ _ 22 rfl w 5 i0 (Ao .u8 0) 1 Cq hi g0 h0 Ar Ar _ _ 8 rfl rfl rfl rfl (by rw[j0];omega) (by unfold Au;omega) (Ay _) ?_;intro w1 a0 b0)
 have hb1:Ab w w w1:=(Az _ _).grown b0 (Ay _) (by simp);have ho1:w1.ownsRow w 5 1 (V (Q w 0 I) 8 8) 8 ((xs.take 0++List.replicate (8-0) 0).map (Ao .u8)):=by
  simpa [Value.cells,Dp] using a0
 clear a0 b0;go_loopw [8] (fun i wr=>∃ k:Nat,k<=8/\i=Ao Ar k/\wr.ownsRow w 5 1 (V (Q w 0 I) 8 8) 8 ((xs.take k++List.replicate (8-k) 0).map (Ao .u8))/\Ab w w wr) (fun i _=>8-(intOf i).toNat)
 case atStart=>exact⟨0,Bi _,rfl,ho1,hb1⟩
 case round=>
  obtain⟨k,hk,rfl,a0,c0⟩:=hrel;clear ho1 hb1;by_cases hlt:k<8
  .have HE:H (xs.getD k 0=((lby x k:Nat):Int)):=by show _=_;rw[HX.out,jRf x k hlt]
   obtain⟨old,k0⟩:∃ v,wr.cell? (Q w k I)=M v:=by
    rw[a0.cellAt k (by omega)];exact⟨_,Bj (by rw[a0.1];omega)⟩
   have n0:=a0.frozenAt k;have d0:=a0.stored k (Ao .u8 (xs.getD k 0));rw[jAu .u8 xs 8 k HL.out hlt,HE.out] at d0;have e0:Ab w w (wr.setCell (Q w k I) (Ao .u8 ((lby x k:Nat):Int))):=c0.setCell (Ay _) _;have HO:H _:=d0.1;clear d0 a0;have h7:8*(7-(k:Int))=((8*(7-k):Nat):Int):=by omega
   have f0:IntKind.u8.wrap (U x / 2 ^ (8*(7-k)))=((lby x k:Nat):Int):=jOj x _;generalize lby x k=y at f0 HO e0;go_wp2
   exact⟨⟨k+1,by omega,by go_num,HO.out,e0⟩,by simp[intOf];omega⟩
  .have e:k=8:=by omega
   subst e;have e2:xs.take 8++List.replicate (8-8) 0=xs:=by rw[Dl (by rw[HL.out];omega)];simp
   rw[e2] at a0;have m0:=Dq (P:=prog) wr 22 5 Cq D9 w 0 8 8 xs HL (fun i hi=>by
    rw[Bq,a0.cellAt i (by omega)];simp[HL.out,hi]) 9 C6
   go_wp2
   go_ret
   exact⟨xU (by rw[HX.out]),c0⟩
theorem QU (x:BitVec 64) (w:Ad):CB 177 #[Ao .u64 (U x)] w (strOfNums (lx x)):=by
 obtain⟨i0,hi,f0,g0,h0⟩:=Ch Tryz.infoByte;obtain⟨xs,HX⟩:=nmH (lx x);have HL:H (xs.length=8):=by show _=_;rw[HX.out,jJl]
 go_enter func177,ntmps177
 go_wp2
 have ho1:(w.alloc (J #[] 5)).ownsRow w 5 1 (V (Q w 0 I) 0 0) 0 ((xs.take 0).map (Ao .u8)):=
  Cc w #[] 0 (Ay _) (by unfold Au;omega) rfl
 go_loopw [3,4] (fun v i wr=>∃ k:Nat,k<=8/\i=Ao Ar (56-8*(k:Int))/\wr.ownsRow w 5 1 v k ((xs.take k).map (Ao .u8))/\H (v≠V I 0 0)/\Ab w w wr) (fun _ i _=>(intOf i+8).toNat)
 case atStart=>exact⟨0,Bi _,rfl,ho1,by simp[H],(Az _ _).alloc (Ay _) _⟩
 case round=>
  obtain⟨k,hk,rfl,a0,HV,hbel⟩:=hrel;clear ho1;by_cases hlt:k<8
  .have h7:(56:Int)-8*(k:Int)=((8*(7-k):Nat):Int):=by omega
   have e0:IntKind.u8.wrap (U x / 2 ^ (8*(7-k)))=((lby x k:Nat):Int):=jOj x _;have HE:H (xs.take (k+1)=xs.take k++[((lby x k:Nat):Int)]):=by
    show _=_;rw[QY xs k (by rw[HL.out];exact hlt),HX.out,jRf x k hlt]
   have HN:H ((56:Int)-8*((k+1:Nat):Int)=((8*(7-k):Nat):Int)-8):=by show _=_;omega
   generalize lby x k=y at e0 HE;obtain⟨j,hj⟩:∃ j,8*(7-k)=j:=⟨_,rfl⟩;have j0:j<=56:=by omega
   rw[h7];rw[hj] at e0 HN |-;clear h7 hj;go_wp2_with (at_builtin;refine wpList_append_own _ rfl _ _ 22 rfl w 5 i0 (Ao .u8 0) 1 1 Cq hi f0 g0 h0 rfl (by decide) _ _ _ rfl (a0.alloc _) ⟨wr.1.size,0,I⟩ 1 1 [Ao .u8 (y:Int)] rfl rfl ?c1 ?c2 ?c3 ?c4 ?c5 ?_)
   case c1=>
    intro j' u hj';match j',hj' with
    | 0,hj'=>simp at hj';subst hj';simp[Addr.add]
   case c2=>intro u hu;simp at hu;subst hu;rfl
   case c3=>unfold Au;omega
   case c4=>omega
   case c5=>have:=hbel.size;simp;omega
   .intro v' w1 c0 b0 d0;have HV':=hd d0;have HO:H (w1.ownsRow w 5 1 v' (k+1) ((xs.take (k+1)).map (Ao .u8))):=by
     rw[HE.out,Dv,G0];exact c0
    have hb':Ab w w w1:=(hbel.alloc hbel.size _).grown b0 (by have:=hbel.size;simp;omega) (fun j hj=>(a0.lt j hj).1);clear c0 b0 d0 a0;go_wp2
    go_roundw
    case rel=>exact⟨k+1,by omega,by rw[HN.out],HO.out,HV'.out,hb'⟩
    case measure=>simp[intOf] <;> omega
  .have e:k=8:=by omega
   subst e;rw[Dl (by rw[HL.out];omega)] at a0;obtain⟨g,cap,rfl⟩:∃ g cap,u3=V (Q g 0 I) 8 cap:=by
    rcases a0.2 with h|⟨g,cap,k0,h,_⟩
    .exact Bo h.1 HV
    .exact⟨g,cap,h⟩
   have m0:=Dq (P:=prog) wr 22 5 Cq D9 g 0 8 cap xs HL (fun i hi=>by
    rw[Bq,a0.cellAt i (by omega)];simp[HL.out,hi]) 9 C6
   go_wp2
   go_ret
   exact⟨xU (by rw[HX.out]),hbel⟩
end Go.Proofs.YtcaejlalnjnifaaGreat
