import Derived.Test.YtcaejlalnjnifaaGreatP18
import Derived.Test.YtcaejlalnjnifaaGreatP19
set_option maxHeartbeats 8000000
set_option maxRecDepth 2000
open Option renaming none->I,some->M
open Go.Addr renaming mk->Q
open Go.Obj renaming cells->J
open Go renaming World->Ad,Addr->Al
open Go.Value renaming int->Ao
open Go.ChangeShapes Go.WideShapes Go.ChangeAt Go.RowKit
namespace Go.Proofs.YtcaejlalnjnifaaGreat
theorem jLw (f:Nat->Nat) (k:Nat):(eI f (k+1)).map (Ao .u8)=(eI f k).map (Ao .u8)++[Ao .u8 ((f k:Nat):Int)]:=by
 rw[jIw,Dv];rfl
theorem jLy (s:BA) (n x y:Nat) (hn:s.size=n) (hx:n / 256=x) (hy:n % 256=y):[Ao .u8 (x:Int),Ao .u8 (y:Int)]++(eI (tat s) n).map (Ao .u8)=(eI (frm s) (2+n)).map (Ao .u8):=by
 apply Cn
 intro i;by_cases h:i<2+n
 .rw[Eb,jCt _ _ _ h];match i,h with
  | 0,_=>simp[frm,hn,hx]
  | 1,_=>simp[frm,hn,hy]
  | j+2,h=>
   have hj:j<n:=by omega
   rw[Ds (by simp)];simp[eI,hj,frm]
 .rw[Bb (by simp[qZ];omega),Bb (by simp[qZ];omega)]
theorem jHl {w:Ad} (s:BA) (cap:Nat) (fr:Nat×Nat):∀ j u,((eI (tat s) s.size).map (Ao .u8))[j]?=M u->(w.alloc (J (bytesRow s cap) 5 fr)).cell? (((Q w 0 I):Al).add j)=M u:=fun j u hu=>by
 have hj:j<s.size:=by
  by_cases hh:j<s.size
  .exact hh
  .rw[Bb (by simp[qZ];omega)] at hu;cases hu
 have ea:((Q w 0 I):Al).add j=(Q w j I):=by unfold Addr.add;split <;> simp_all
 rw[ea,World.cell?_alloc_mark,bytesRow_at s cap j hj,<-hu];rw[Eb,jCt _ _ _ hj];have:tat s j=s.data[j].toNat:=XU s j hj
 simp[this]
theorem jRl (f:Nat->Nat) (n:Nat):∀ u∈(eI f n).map (Value.int .u8),u.oneCell'=true:=by
 intro u hu;simp at hu;obtain⟨y,_,rfl⟩:=hu;rfl
set_option maxRecDepth 100000 in
theorem jE7 (s:ByteArray) (k n:Int) (w:World) (hs:s.size<=1048576) :
  Calls Tryz.prog 127 #[.string s,.int .i64 k,.int .i64 n] w fun e w'=>∃ v,e=.returned (.tuple #[v,.bool (vJ s k n)])/\jCk w w' v (jBl s k n) (XY s k.toNat)/\Below w.heap.size w w':=by
 obtain⟨i0,hi,hz0,hz1,hz2⟩:=info_parts Tryz.infoByte;obtain⟨i1,hj,hy0,hy1,hy2⟩:=info_parts Tryz.infoStr;obtain⟨sz,hsz⟩:∃ sz,s.size=sz:=⟨_,rfl⟩;by_cases hs2:sz<=2000
 case neg=>
  have he:vJ s k n=false:=by unfold vJ;simp;omega
  have hr:jBl s k n=0:=by unfold jBl;rw[if_neg (by rw[he];simp)]
  rw[he,hr];have h1:(sz:Int)>2000:=by omega
  clear he hr;go_enter Tryz.func127,Tryz.ntmps127
  go_wp2
  go_ret2
  exact⟨_,rfl,⟨_,_,rfl,jIc _ _⟩,(Below.refl _ _).alloc (Nat.le_refl _) _⟩
 have hs2i:¬ (sz:Int)>2000:=by omega
 by_cases hok:qU k n=true
 case neg=>
  have hok':qU k n=false:=by simpa using hok
  have he:vJ s k n=false:=by unfold vJ;rw[hok'];simp
  have hr:jBl s k n=0:=by unfold jBl;rw[if_neg (by rw[he];simp)]
  rw[he,hr];clear he hr hok;go_enter Tryz.func127,Tryz.ntmps127
  go_wp2_with (go_at_call 155;refine(jB2 _ _ _).mono ?_;rintro e w' ⟨rfl,hw⟩;obtain rfl:=hw.symm)
  go_ret2
  exact⟨_,rfl,⟨_,_,rfl,jIc _ _⟩,(Below.refl _ _).alloc (Nat.le_refl _) _⟩
 obtain⟨h1,h2,h3⟩:=zK hok;obtain⟨K,rfl⟩:=Int.eq_ofNat_of_zero_le (show 0<=k by omega);obtain⟨M,rfl⟩:=Int.eq_ofNat_of_zero_le (show 0<=n by omega);have hR:jBb (K:Int) (M:Int)=M:=by unfold jBb;rw[if_pos hok];simp
 have KSP:Hid (∀ w,Calls Tryz.prog 162 #[.int .i64 (K:Int),.int .i64 (M:Int)] w fun e w'=>∃ v,e=.returned (.tuple #[v,.bool true])/\jFn w w' v M K (Gm.sprd K)/\Below w.heap.size w w'):=fun w=>by
  have:=jE9 (K:Int) (M:Int) w
  rw[hok,hR,Int.toNat_natCast] at this;exact this
 have he:vJ s (K:Int) (M:Int)=true:=by unfold vJ;rw[hok];simp;omega
 have hr:jBl s (K:Int) (M:Int)=M:=by unfold jBl;rw[if_pos he];simp
 rw[he,hr,Int.toNat_natCast];have hK1:1<=K:=by omega
 have hK16:K<=16:=by omega
 have hB:=fun w=>jDq (sz:Int) (K:Int) w
 rw[jBh hs2 hK1 hK16] at hB;have hbg:=jEg (s:=sz) hK1;have hbp:=jFt (s:=sz) hK1;have hble:=ZI (s:=sz) hK1;have KEN:Hid (XY s K=bod K (Gm.sprd K) (pcs (frm s) (XA sz K)) (XA sz K)):=by show _=_;unfold XY;rw[hsz];unfold enc;rw[hsz]
 obtain⟨l,hl⟩:∃ l,XA sz K=l:=⟨_,rfl⟩;rw[hl] at hB hbg hbp hble KEN;obtain⟨NN,hNN⟩:∃ NN,K*l=NN:=⟨_,rfl⟩;have hNb:NN<=100000:=by rw[<-hNN];exact Nat.le_trans (Nat.mul_le_mul hK16 hble) (by omega)
 rw[hNN] at hbg;have hm:(K:Int)*(l:Int)=(NN:Int):=by rw[<-hNN,Int.natCast_mul]
 have hwm:IntKind.i64.wrap ((K:Int)*(l:Int))=(NN:Int):=by rw[hm,IntKind.wrap_i64];omega
 have KNN:Hid (NN=K*l):=hNN.symm;have hFl:∀ q,frm s q<256:=fun q=>jNu (by omega) _
 obtain⟨x,hx⟩:∃ x,sz / 256=x:=⟨_,rfl⟩;obtain⟨y,hy⟩:∃ y,sz % 256=y:=⟨_,rfl⟩;have KHD:Hid ([Value.int .u8 (x:Int),Value.int .u8 (y:Int)]++(eI (tat s) sz).map (Value.int .u8)=(eI (frm s) (2+sz)).map (Value.int .u8)):=jLy s sz x y hsz hx hy;have e1:IntKind.u8.wrap ((sz:Int) / 256)=(x:Int):=by rw[IntKind.wrap_u8];omega
 have e2:IntKind.u8.wrap ((sz:Int) % 256)=(y:Int):=by rw[IntKind.wrap_u8];omega
 have e3:Int.tdiv (sz:Int) 256=(sz:Int) / 256:=by rw[Int.tdiv_eq_ediv_of_nonneg (by omega)]
 have e4:Int.tmod (sz:Int) 256=(sz:Int) % 256:=by rw[Int.tmod_eq_emod_of_nonneg (by omega)]
 have hcvt:=fun w s=>run_bytes_of_string (P:=Tryz.prog) w 9 22 5 s Tryz.underlying9 Tryz.underlying22 Tryz.underlying5
 have KNB:Hid (∀ (cap:Nat) (fr:Nat×Nat) (j:Nat) (u:Value),((eI (tat s) sz).map (Value.int .u8))[j]?=some u->(((w.alloc (.cells #[.int .u8 (x:Int),.int .u8 (y:Int)] 5)).alloc (.cells (bytesRow s cap) 5 fr)).drew).cell? ((⟨w.heap.size+1,0,none⟩:Addr).add j)=some u):=fun cap fr j u hu=>by
  have h1:=jHl (w:=w.alloc (.cells #[.int .u8 (x:Int),.int .u8 (y:Int)] 5)) s cap fr j u (by rw[hsz];exact hu);have e:(w.alloc (.cells #[.int .u8 (x:Int),.int .u8 (y:Int)] 5)).heap.size=w.heap.size+1:=by simp
  rw[e] at h1;exact h1
 have KO1:Hid ((w.alloc (.cells #[.int .u8 (x:Int),.int .u8 (y:Int)] 5)).ownsRow w.heap.size 5 1 (.slice (some ⟨w.heap.size,0,none⟩) 2 2) 2 [Value.int .u8 (x:Int),Value.int .u8 (y:Int)]):=World.ownsRow_lit w #[.int .u8 (x:Int),.int .u8 (y:Int)] 2 (Nat.le_refl _) (by unfold maxLen;omega) rfl;have hlen:((eI (tat s) sz).map (Value.int .u8)).length=sz*1:=by simp[qZ]
 have KONE:Hid _:=jRl (tat s) sz;clear he hr hl hNN hR hm hx hy;go_enter Tryz.func127,Tryz.ntmps127
 go_wp2_with (first|(go_at_call 155;refine(jB2 _ _ _).mono ?_;rintro e w' ⟨rfl,hw⟩;obtain rfl:=hw.symm;clear hw)|(go_at_call 161;refine(hB _).mono ?_;rintro e w' ⟨rfl,hw⟩;obtain rfl:=hw.symm;clear hw)|(at_builtin;(refine qC _ (by rfl) _ _ 22 (by rfl) w.heap.size 5 i0 (.int .u8 0) 1 1 Tryz.underlying22 hi hz0 hz1 hz2 rfl (by decide) w.heap.size 2 2 _ (by rfl) ((World.ownsRow.alloc KO1.out _).drew) ⟨w.heap.size+1,0,none⟩ sz _ ((eI (tat s) sz).map (Value.int .u8)) (by rfl) hlen (KNB.out _ _) KONE.out (by unfold maxLen;omega) (by omega) (by simp;omega) ?_);intro g3 cap3 w3 hown3 hgrow3))
 have hb3:Below w.heap.size w w3:=((((Below.refl w.heap.size w).alloc (Nat.le_refl _) (.cells #[.int .u8 (x:Int),.int .u8 (y:Int)] 5)).alloc (by simp) _).drew).grown hgrow3 (by simp;omega) (fun j hj=>by cases hj;exact Nat.le_refl _);have K3:Hid (vW w3 w.heap.size g3 (2+sz) cap3 (frm s)):=by
  show vW _ _ _ _ _ _;unfold vW;rw[<-KHD.out];exact hown3
 have KB3:Hid (Below w.heap.size w w3):=hb3;clear hown3 hgrow3 hb3 KNB KO1 KONE hlen e1 e2 e3 e4 KHD hcvt hB;go_loopw [9] (fun v wr=>∃ m g c:Nat,2+sz<=m/\m<=NN/\v=.slice (some ⟨g,0,none⟩) m c/\vW wr w.heap.size g m c (frm s)/\Below w.heap.size w wr) (fun v _=>NN-lenV v)
 case atStart=>exact⟨2+sz,g3,cap3,Nat.le_refl _,by omega,rfl,K3.out,KB3.out⟩
 case round=>
  obtain⟨m,g,c,hm1,hm2,rfl,hown,hbel⟩:=hrel;clear K3 KB3;by_cases hlt:m<NN
  .have hmi:(m:Int)<(NN:Int):=by omega
   have hsz1:=hbel.size;have hgl:=hown.lt.1;have KF0:Hid (frm s m=0):=jO8 (by omega);go_wp2_with (at_builtin;refine wpList_append_lies _ (by rfl) _ _ 22 (by rfl) w.heap.size 5 i0 (.int .u8 0) 1 1 Tryz.underlying22 hi hz0 hz1 hz2 rfl (by decide) (.slice (some ⟨g,0,none⟩) m c) m _ (by rfl) (World.ownsRow.alloc hown _) ⟨wr.heap.size,0,none⟩ 1 1 [.int .u8 0] (by rfl) (by rfl) (World.news_of_block (cs:=#[.int .u8 0]) (t:=5) (fr:=(0,0)) (heap_alloc_new wr _)) (by simp[Value.oneCell']) (by omega) (by unfold maxLen;omega) (by omega) (by simp;omega) (wr.heap.size+1) (by simp) ?_;intro g4 cap4 w4 hown4 hgrow4 hat4 hltg4)
   have HO:Hid (vW w4 w.heap.size g4 (m+1) cap4 (frm s)):=by
    show vW _ _ _ _ _ _;unfold vW;rw[jLw,KF0.out];exact hown4
   have hb':Below w.heap.size w w4:=(hbel.alloc hsz1 _).grown (show World.grownBy _ w4 (some g) from hgrow4) (by simp;omega) (fun j hj=>by cases hj;exact hgl);clear hown4 hgrow4 hat4 hltg4 hown;go_roundw
   case rel=>exact⟨m+1,g4,cap4,by omega,by omega,rfl,HO.out,hb'⟩
   case measure=>simp[lenV] <;> omega
  .obtain rfl:NN=m:=by omega
   have hmi:¬ (NN:Int)<(NN:Int):=by omega
   have KA:Hid (∀ q,q<NN->wr.cell? ⟨g,q,none⟩=some (.int .u8 ((frm s q:Nat):Int))):=fun q hq=>hown.cell hq
   have hcap:NN<=c:=jMn hown;have hszr:=hbel.size;have KBr:Hid (Below w.heap.size w wr):=hbel;obtain⟨wA,hwA⟩:∃ wA,wr=wA:=⟨_,rfl⟩;rw[hwA] at KA KBr hszr;have K0:Hid (jI (wA.alloc (.cells #[] 9)) wA.heap.size (some ⟨wA.heap.size,0,none⟩) 0 0 (fun j=>txt (pcs (frm s) l j) l)):=jIc wA _;clear hown hbel;go_wp2
   clear hwA;go_loopw [10,11] (fun v i wr=>∃ j a G c2:Nat,j<=K/\Hid (a=j*l)/\i=.int .i64 (j:Int)/\v=.slice (some ⟨G,0,none⟩) j c2/\jI wr wA.heap.size (some ⟨G,0,none⟩) j c2 (fun j=>txt (pcs (frm s) l j) l)/\Below wA.heap.size wA wr) (fun _ i _=>K-(intOf i).toNat)
   case atStart=>exact⟨0,0,_,_,Nat.zero_le _,by show 0=0*l;omega,rfl,rfl,K0.out,(Below.refl _ _).alloc (Nat.le_refl _) _⟩
   case round=>
    obtain⟨j,a,G,c2,hjK,HA,rfl,rfl,hown,hbel⟩:=hrel;clear K0;by_cases hjl:j<K
    .have hji:(j:Int)<(K:Int):=by omega
     have hsz1:=hbel.size;have hgl:=(World.ownsRow.lt hown _ rfl).1;have hal:a+l<=NN:=by
      rw[HA.out,KNN.out];have:(j+1)*l<=K*l:=Nat.mul_le_mul_right _ hjl
      rw[Nat.succ_mul] at this;omega
     have hj1:(j:Int)*(l:Int)=(a:Int):=by rw[HA.out,Int.natCast_mul]
     have hj2:((j:Int)+1)*(l:Int)=(a:Int)+(l:Int):=by rw[Int.add_mul,hj1,Int.one_mul]
     have hw1:IntKind.i64.wrap ((j:Int)*(l:Int))=(a:Int):=by rw[hj1,IntKind.wrap_i64];omega
     have hw2:IntKind.i64.wrap (((j:Int)+1)*(l:Int))=(a:Int)+(l:Int):=by rw[hj2,IntKind.wrap_i64];omega
     have h1':(0:Int)<=(a:Int):=by omega
     have h2':(a:Int)<=(a:Int)+(l:Int):=by omega
     have h3':(a:Int)+(l:Int)<=(c:Int):=by omega
     have h4':a+l-a=l:=by omega
     have h5':¬ (c=a):=by omega
     have hcell:∀ p,p<l->wr.cell? ⟨g,a+p,none⟩=some (.int .u8 ((eI (pcs (frm s) l j) l).getD p 0)):=fun p hp=>by
      have h0:=KA.out (a+p) (by omega);rw[(hbel.cell (p:=⟨g,a+p,none⟩) (block_lt_of_cell h0)).trans h0,JR _ _ _ hp];unfold pcs;rw[HA.out]
     have hcv:=run_convert_bytes_arg (P:=Tryz.prog) wr 22 5 Tryz.underlying22 Tryz.underlying5 g a l (c-a) (eI (pcs (frm s) l j) l) (qZ _ _) hcell 9 Tryz.underlying9;rw[show strOfNums (eI (pcs (frm s) l j) l)=txt (pcs (frm s) l j) l from rfl] at hcv;obtain⟨sv,hsv⟩:∃ sv,txt (pcs (frm s) l j) l=sv:=⟨_,rfl⟩;rw[hsv] at hcv;have KSV:Hid (txt (pcs (frm s) l j) l=sv):=hsv;have HA2:Hid (a+l=(j+1)*l):=by show _=_;rw[HA.out,Nat.succ_mul]
     clear hcell hsv hj1 hj2;go_wp2_with (at_builtin;refine wpList_append_lies _ (by rfl) _ _ 27 (by rfl) wA.heap.size 9 i1 (.string ByteArray.empty) 1 16 Tryz.underlying27 hj hy0 hy1 hy2 rfl (by decide) (.slice (some ⟨G,0,none⟩) j c2) j _ (by rfl) (World.ownsRow.alloc hown _) ⟨wr.heap.size,0,none⟩ 1 1 [.string sv] (by rfl) (by rfl) (World.news_of_block (cs:=#[.string sv]) (t:=9) (fr:=(0,0)) (heap_alloc_new wr _)) (by simp[Value.oneCell']) (by omega) (by unfold maxLen;omega) (by omega) (by simp;omega) (wr.heap.size+1) (by simp) ?_;intro g2 cap2 w2 hown2 hgrow hat hltg)
     have HO:Hid (jI w2 wA.heap.size (some ⟨g2,0,none⟩) (j+1) cap2 (fun j=>txt (pcs (frm s) l j) l)):=by
      show jI _ _ _ _ _ _;unfold jI;rw[JY,KSV.out];exact hown2
     have hb':Below wA.heap.size wA w2:=(hbel.alloc hsz1 _).grown (show World.grownBy _ w2 (some G) from hgrow) (by simp;omega) (fun j hj=>by cases hj;exact hgl);clear hown2 hgrow hat hltg hown;go_roundw
     case rel=>exact⟨j+1,a+l,g2,cap2,by omega,HA2,by go_num,rfl,HO.out,hb'⟩
     case measure=>simp[intOf] <;> omega
    .obtain rfl:K=j:=by omega
     have hji:¬ (K:Int)<(K:Int):=by omega
     have KT:Hid (jK wr (some ⟨G,0,none⟩) K (fun j=>txt (pcs (frm s) l j) l)):=jI.at hown;have hsz1:=hbel.size;clear hown;go_wp2_with fail
     refine Calls.mono (KSP.out _) ?_;rintro e w5 ⟨v,rfl,hRM,hb5⟩;obtain⟨am,cm,Am,Cm,rfl,hMM⟩:=hRM;have KMA:Hid (ZH w5 am M (fun _=>K) (fun i j=>((Gm.sprd K i j:Nat):Int))):=hMM.at;have KT5:Hid (jK w5 (some ⟨G,0,none⟩) K (fun j=>txt (pcs (frm s) l j) l)):=KT.out.below hb5;have hs5:=hb5.size;clear hMM KT;go_wp2_with fail
     refine Calls.mono (jKz am cm M (Gm.sprd K) (some ⟨G,0,none⟩) c2 K l (fun j=>txt (pcs (frm s) l j) l) w5 KMA.out KT5.out (fun _ _=>zM _ _) (by omega) ⟨hK1,hK16⟩ (by omega) (Gm.sprd_byt K)) ?_;rintro e w6 ⟨G6,c6,rfl,hO6,hb6⟩;have HO:Hid (jCk w w6 (.slice (some ⟨G6,0,none⟩) M c6) M (XY s K)):=⟨_,_,rfl,by
      rw[KEN.out];exact jI.congr (jI.base hO6 (by omega)) (fun i _=>jIo (fun _ _=>rfl) (fun t p _ hp=>jFh hp (hFl _)))⟩
     clear hO6 KMA KT5;go_wp2
     go_ret2
     exact⟨_,rfl,HO.out,jA (jA (jA KBr.out hbel) hb5) hb6⟩
end Go.Proofs.YtcaejlalnjnifaaGreat
