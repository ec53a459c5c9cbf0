import Derived.Test.YtcaejlalnjnifaaGreatP11
set_option maxHeartbeats 8000000
set_option maxRecDepth 2000
open Go.Value renaming slice->V,string->Ag,int->Ao
open Option renaming none->I,some->M
open Go.RowKit renaming Hid->H
open Go renaming World->Ad,Value->Aj,maxLen->Au
open ByteArray renaming empty->Ap
open Go.IntKind renaming i64->Ar
open Bool renaming true->Aw
open Go.Proofs.Tryz
open Go.ChangeShapes Go.WideShapes Go.ChangeAt Go.RowKit
namespace Go.Proofs.YtcaejlalnjnifaaGreat
theorem jRd {α:Type} (l:List α) (h:l.length=6):∃ a b c d e f,l=[a,b,c,d,e,f]:=by
 match l,h with
 | [a,b,c,d,e,f],_=>exact⟨a,b,c,d,e,f,rfl⟩
theorem XF {H:Type} {enc:TypeId×Aj->H} {w:Ad} {base:Nat} {d0:Nat->Bool} {i0:Bool} {h0:Nat} {cs:List Aj} {x:DataW H×List MemPlace} (h:DataW.trod enc prog w base d0 i0 h0 64 cs=M x):∃ (r:BA) (k n i:Int) (b:BA) (a:OA) (m c:Nat) (S:Nat->BA),cs=[Ag r,Ao Ar k,Ao Ar n,Ao Ar i,Ag b,V a m c]/\((Lit.int Ar k).wf=Aw/\(Lit.int Ar n).wf=Aw/\(Lit.int Ar i).wf=Aw)/\r.size<=Au/\b.size<=Au/\jOx w a m S:=by
 have c6:Tryz.prog.cellsOf 64=6:=by kernel_rfl
 have f0:Tryz.prog.cellsOf 9=1:=by kernel_rfl
 have k0:Tryz.prog.cellsOf 3=1:=by kernel_rfl
 have m0:Tryz.prog.cellsOf 27=1:=by kernel_rfl
 obtain⟨xs,f,_,_,hl,j0,hf⟩:=Ey underlying64 h;rw[c6] at hl;obtain⟨c0,c1,c2,c3,c4,c5,rfl⟩:=jRd cs hl;obtain⟨y0,y1,y2,y3,y4,y5,rfl⟩:=jRd xs j0;have g0:=hf 0 _ rfl;have g1:=hf 1 _ rfl;have g2:=hf 2 _ rfl;have g3:=hf 3 _ rfl;have g4:=hf 4 _ rfl;have g5:=hf 5 _ rfl;simp[f0,k0,m0] at g0 g1 g2 g3 g4 g5;obtain⟨r,e0,_,hr⟩:=Fk C6 g0;obtain⟨k,e1,_,u1⟩:=Dr Db g1;obtain⟨n,e2,_,u2⟩:=Dr Db g2;obtain⟨i,e3,_,u3⟩:=Dr Db g3;obtain⟨b,e4,_,hb⟩:=Fk C6 g4;simp at e0 e1 e2 e3 e4;subst e0 e1 e2 e3 e4;rcases Go.Deep.open_strs C3 C6 f0 g5 with ⟨a0,_⟩|⟨ad,l,c,m,Sx,a0,_,n0,hm,o0,_,b0⟩
 .simp at a0;subst a0;exact⟨r,k,n,i,b,I,0,0,fun _=>Ap,rfl,⟨u1,u2,u3⟩,hr,hb,fun i hi=>Bo hi (Bk _),Bi _,fun i hi=>Bo hi (Bk _)⟩
 .simp at a0;subst a0;exact⟨r,k,n,i,b,M ad,l,c,Sx,rfl,⟨u1,u2,u3⟩,hr,hb,jL9 n0 hm (by rw[o0];split <;> omega) b0⟩
end Go.Proofs.YtcaejlalnjnifaaGreat
