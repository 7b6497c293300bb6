/- The document's Fresh (rootcellarref11): how many nodes of the new tree are new, as a contract. -/
import Derived.Test.YtabiglnmfdpcfaaGreatDoorBz01
import Derived.Test.YtabiglnmfdpcfaaGreatDoorBz39
import Derived.Test.YtabiglnmfdpcfaaGreatDoorBz30
import Derived.Test.YtabiglnmfdpcfaaGreatDoorBz31
import Derived.Test.YtabiglnmfdpcfaaGreatDoorBz33
import Derived.Test.YtabiglnmfdpcfaaGreatDoorBz34
import Derived.Test.YtabiglnmfdpcfaaGreatDoorBz35
import Derived.Test.YtabiglnmfdpcfaaGreatDoorBz38
import Derived.Test.YtabiglnmfdpcfaaGreatDoorBz23
namespace Go.Proofs.YtabiglnmfdpcfaaGreatDoor
variable {E es:List Ent}
variable {R g gs h k n n' o x:Nat}
variable {S fr':List Nat}
variable {cs cs':Lz}
variable {v v':Value}
variable {w w' w1 wb:World}
variable {xs xs':List Value}
set_option maxHeartbeats 8000000
set_option maxRecDepth 20000
open Go.RowKit

def frC (X Y:List (Int×List Ent)):Nat:=(Y.filter fun y=>!(X.any fun x=>decide (y=x))).length
theorem frC_le (X Y:List (Int×List Ent)):frC X Y≤Y.length:=List.length_filter_le _ _
theorem frC_snoc (X Y:List (Int×List Ent)) (y:Int×List Ent):frC X (Y++[y])=frC X Y+(if (X.any fun x=>decide (y=x))=true then 0 else 1):=by
  unfold frC;rw [List.filter_append,List.length_append];congr 1
  by_cases h:(X.any fun x=>decide (y=x))=true
  · rw [if_pos h,List.filter_cons,if_neg (by rw [h];decide)]
    rfl
  · rw [if_neg h,List.filter_cons,if_pos (by rw [eq_false_of_ne_true h];rfl)]
    rfl

def prN (x:Nr):Int×List Ent:=(x.d,x.es)
theorem any_take (X:List (Int×List Ent)) (y:Int×List Ent) (k:Nat) (hk:k<X.length):((X.take (k+1)).any fun x=>decide (y=x))=(((X.take k).any fun x=>decide (y=x)) || decide (y=X[k])):=by
  rw [List.take_succ_eq_append_getElem hk,List.any_append];simp

theorem trN_sub:∀(n d:Nat) (l:List Ent),∀y∈trN n d l,y.2.length≤l.length
  | 0,d,l,y,hy=>by
    unfold trN at hy;split at hy
    · obtain rfl:y=(none,l):=by simpa using hy
      exact Nat.le_refl _
    · cases hy
  | n+1,d,l,y,hy=>by
    unfold trN at hy;split at hy
    · cases hy
    · split at hy
      · obtain rfl:y=(none,l):=by simpa using hy
        exact Nat.le_refl _
      · rcases List.mem_cons.1 hy with rfl | hy
        · exact Nat.le_refl _
        · rcases List.mem_append.1 hy with h | h
          · exact Nat.le_trans (trN_sub n (d+1) _ y h) (List.length_filter_le _ _)
          · exact Nat.le_trans (trN_sub n (d+1) _ y h) (List.length_filter_le _ _)

set_option maxRecDepth 100000 in
theorem fresh11_any (vo vn:Value) (Vo Vn:Nat→Value) (E F:List Ent) (w:World) (ho:∀z,Kb w z→PrAt z vo Vo E) (hn:∀z,Kb w z→PrAt z vn Vn F) (lE:E.length≤100) (lF:F.length≤100) (pE:TPre 0 E) (pF:TPre 0 F):
    Kc 21 #[vo,vn] w fun e w'=>e=.returned (.int .i64 (frC ((trN 256 0 E).map dpE) ((trN 256 0 F).map dpE):Int))∧Kb w w':=by
  have HT1:Hid (Kc 20 #[vo,.int .i64 0] w (TrPost w w 256 0 E)):=tree11_any 256 0 rfl w vo Vo E (Below.refl _ _) (.inl ho) lE pE;have HT2:Hid (∀w',Kb w w'→Kc 20 #[vn,.int .i64 0] w' (TrPost w w' 256 0 F)):=fun w' hb=>tree11_any 256 0 rfl w' vn Vn F hb (.inl hn) lF pF
  have HLX:Hid (∀X,X=(trN 256 0 E).map dpE→X.length≤30000):=fun X e=>by
    rw [e,List.length_map];have:=trN_len_le 256 0 E;omega
  have HLY:Hid (∀X,X=(trN 256 0 F).map dpE→X.length≤30000):=fun X e=>by
    rw [e,List.length_map];have:=trN_len_le 256 0 F;omega
  have HLE:Hid (∀x:Nr,(x.d,x.es)∈(trN 256 0 F).map dpE→x.es.length≤65536):=fun x hx=>by
    obtain ⟨y,hy,e⟩:=List.mem_map.1 hx;have h1:=trN_sub 256 0 F y hy;injection e with _ e;rw [← e];exact Nat.le_trans h1 (by omega)
  obtain ⟨a1,c1,e1,_⟩:=ho w (Below.refl _ _);obtain ⟨a2,c2,e2,_⟩:=hn w (Below.refl _ _);subst e1;subst e2;obtain ⟨m1,hm1⟩:∃m,m=E.length:=⟨_,rfl⟩;obtain ⟨m2,hm2⟩:∃m,m=F.length:=⟨_,rfl⟩;rw [← hm1] at HT1 ⊢;rw [← hm2] at HT2 ⊢;clear ho hn lE lF pE pF hm1 hm2;obtain ⟨X,hX⟩:∃X,X=(trN 256 0 E).map dpE:=⟨_,rfl⟩;obtain ⟨Y,hY⟩:∃Y,Y=(trN 256 0 F).map dpE:=⟨_,rfl⟩
  replace HLX:=hidden (HLX.out X hX)
  replace HLY:=hidden (HLY.out Y hY)
  rw [← hY] at HLE;rw [← hX,← hY];have HXY:=hidden (And.intro hX hY);have HUN:=hidden u_nodes.choose_spec;clear hX hY;go_enter Tryz.func21,Tryz.ntmps21
  go_wp2_with (first
    |(go_at_call 20;have mk:=mk1;clear mk;refine (HT2.out _ HB1.out).mono ?_;rintro e w2 ⟨v2,ny,rfl,t2,s2,b2⟩;have HTY:=hidden t2;have HTX:=hidden (HTX1.out.grow b2);have HB2:=hidden (grow_trans HB1.out b2);have HNY:Hid (ny.map prN=Y):=(by rw [HXY.out.2];exact s2);obtain ⟨ya,yc,e2⟩:=lst_slice t2.own;subst e2;clear t2 s2 b2 HT2 HB1 HTX1)
    |(go_at_call 20;refine HT1.out.mono ?_;rintro e w1 ⟨v1,nx,rfl,t1,s1,b1⟩;have HTX1:=hidden t1;have HB1:=hidden b1;have HNX:Hid (nx.map prN=X):=(by rw [HXY.out.1];exact s1);obtain ⟨xa,xc,e1⟩:=lst_slice t1.own;subst e1;have mk1:Hid True:=trivial;clear t1 s1 b1 HT1))
  obtain ⟨lx,hlx⟩:∃lx,lx=nx.length:=⟨_,rfl⟩;obtain ⟨ly,hly⟩:∃ly,ly=ny.length:=⟨_,rfl⟩;rw [← hlx,← hly];have HLN:Hid (lx=nx.length∧ly=ny.length∧X.length=lx∧Y.length=ly∧lx≤30000∧ly≤30000):=by
    have q1:X.length=lx:=by rw [hlx,← HNX.out,List.length_map]
    have q2:Y.length=ly:=by rw [hly,← HNY.out,List.length_map]
    exact ⟨hlx,hly,q1,q2,by rw [← q1];exact HLX.out,by rw [← q2];exact HLY.out⟩
  have HXR:Hid (∀k,k<lx→∃gx x,xa=some ⟨gx,0,none⟩∧X[k]?=some (prN x)∧(∀w',Kb w2 w'→w'.rangeAt gx (k * 2) (encN x)∧PrAt w' x.v x.V x.es)):=fun k hk=>by
    have ho:=HTX.out.own;rw [← hlx] at ho;have hk2:k<nx.length:=by omega
    rcases ho.2 with ⟨_,q⟩ | ⟨g,cap,cur,e,_⟩
    · omega
    · injection e with e _ _
      subst e;refine ⟨g,nx[k],rfl,by rw [← HNX.out,List.getElem?_map,List.getElem?_eq_getElem hk2];rfl,fun w' hb=>⟨?_,((HTX.out.ok _ (List.getElem_mem hk2)).grow hb).at (grow_trans HB2.out hb)⟩⟩;exact (lstE_range (lst_grow ho hb) hlx.symm (fun x _=>encN_len x) k hk2).1
  have HYR:Hid (∀k,k<ly→∃gy y,ya=some ⟨gy,0,none⟩∧Y[k]?=some (prN y)∧(∀w',Kb w2 w'→w'.rangeAt gy (k * 2) (encN y)∧PrAt w' y.v y.V y.es)):=fun k hk=>by
    have ho:=HTY.out.own;rw [← hly] at ho;have hk2:k<ny.length:=by omega
    rcases ho.2 with ⟨_,q⟩ | ⟨g,cap,cur,e,_⟩
    · omega
    · injection e with e _ _
      subst e;refine ⟨g,ny[k],rfl,by rw [← HNY.out,List.getElem?_map,List.getElem?_eq_getElem hk2];rfl,fun w' hb=>⟨?_,((HTY.out.ok _ (List.getElem_mem hk2)).grow hb).at (grow_trans HB2.out hb)⟩⟩;exact (lstE_range (lst_grow ho hb) hly.symm (fun x _=>encN_len x) k hk2).1
  clear hlx hly HTX HTY HNX HNY HLX HLY HXY;have ly30:ly≤30000:=HLN.out.2.2.2.2.2;have lx30:lx≤30000:=HLN.out.2.2.2.2.1
  go_loopw [7,8] (fun nv iv wr=>∃(i q:Nat),i≤ly∧nv=.int .i64 (q:Int)∧iv=.int .i64 (i:Int)∧Hid (q=frC X (Y.take i))∧q≤i∧Hid (Kb w2 wr)) (fun _ iv _=>ly-(intOf iv).toNat)
  case atStart=>exact ⟨0,0,by omega,rfl,rfl,rfl,by omega,Below.refl _ _⟩
  case round=>
    obtain ⟨i,q,hi,rfl,rfl,hq,hqi,hb⟩:=hrel
    by_cases hlt:i<ly
    · obtain ⟨gy,y,rfl,hyi,hyr⟩:=HYR.out i hlt
      have HRY:=hidden (fun w' hb=>(hyr w' hb).1);have HPY:=hidden (fun w' hb=>(hyr w' hb).2);have z1:(i:Int)<(ly:Int):=by omega
      have z0:(0:Int)≤(i:Int):=by omega
      have HSN:Hid (Y.take (i+1)=Y.take i++[prN y]):=by
        show _=_;have hi2:i<Y.length:=by have:=HLN.out.2.2.2.1;omega
        rw [List.take_succ_eq_append_getElem hi2];rw [List.getElem?_eq_getElem hi2] at hyi;injection hyi with hyi;rw [hyi]
      have HES:Hid (y.es.length≤65536):=HLE.out y (List.mem_of_getElem? hyi);clear hyi hyr HYR HLE
      go_wp2_with fail
      go_loopw [9,10] (fun isv kv wr=>∃(k:Nat) (b:Bool),k≤lx∧isv=.bool b∧kv=.int .i64 (k:Int)∧Hid (b=(X.take k).any fun x=>decide (prN y=x))∧Hid (Kb w2 wr)) (fun _ kv _=>lx-(intOf kv).toNat)
      case atStart=>exact ⟨0,false,by omega,rfl,rfl,rfl,hb.out⟩
      case round=>
        clear hb;obtain ⟨k,b,hk,rfl,rfl,hbq,hb2⟩:=hrel
        by_cases hgo:k<lx∧b=false
        · obtain ⟨hkl,rfl⟩:=hgo
          obtain ⟨gx,x,rfl,hxk,hxr⟩:=HXR.out k hkl;have HRX:=hidden (fun w' hb=>(hxr w' hb).1);have y1:(k:Int)<(lx:Int):=by omega
          have y0:(0:Int)≤(k:Int):=by omega
          obtain ⟨bb,hbb⟩:∃bb,bb=decide (y.d=x.d∧y.es=x.es):=⟨_,rfl⟩;have HSA:Hid (Kr w2 54 #[.agg (encN y).toArray,.agg (encN x).toArray] (.bool bb)):=fun w' hb=>by
            rw [hbb];exact same11_any y x w' (HPY.out w' hb) ((hxr w' hb).2) HES.out
          have HBN:Hid (bb=(X.take (k+1)).any fun x=>decide (prN y=x)):=by
            show _=_;have hk2:k<X.length:=by have:=HLN.out.2.2.1;omega
            rw [any_take X _ k hk2,← hbq.out,hbb,Bool.false_or];rw [List.getElem?_eq_getElem hk2] at hxk;injection hxk with hxk;rw [hxk];unfold prN;exact decide_eq_decide.2 (by rw [Prod.mk.injEq])
          clear hxk hxr HXR hbb hbq HPY
          go_wp2_with fail
          refine wp_region_held_drew (S:=fun w'=>Kb w2 w') (by kernel_rfl) (grow_trans hb2.out (below_drewN (Below.refl _ _) 1)) (fun hHeld=>?_);refine tkp 0 (.slice (some ⟨gy,0,none⟩) ly yc) hHeld ?_;simp only [Act.put,zq1,zq2,zq4,zq5,zq6];refine tkp 1 (.int .i64 (i:Int)) hHeld ?_;simp only [Act.put,zq1,zq2,zq3,zq4,zq5,zq6];refine tkp 2 (.pointer (some ⟨gy,i * 2,none⟩)) hHeld ?_;simp only [Act.put,zq1,zq2,zq3,zq4,zq5,zq6];refine tkg 3 (.agg (encN y).toArray) rfl (yieldsIf_load_mid rfl 94 (.tmp 33) rfl gy (i * 2) rfl (encN y) _ (fun w hS=>HRY.out _ hS) HUN.out rfl size_nodes) hHeld ?_;simp only [Act.put,zq1,zq2,zq3,zq4,zq5,zq6];refine tkp 4 (.slice (some ⟨gx,0,none⟩) lx xc) hHeld ?_;simp only [Act.put,zq1,zq2,zq3,zq4,zq5,zq6];refine tkp 5 (.int .i64 (k:Int)) hHeld ?_;simp only [Act.put,zq1,zq2,zq3,zq4,zq5,zq6];refine tkp 6 (.pointer (some ⟨gx,k * 2,none⟩)) hHeld ?_;simp only [Act.put,zq1,zq2,zq3,zq4,zq5,zq6];refine tkg 7 (.agg (encN x).toArray) rfl (yieldsIf_load_mid rfl 94 (.tmp 37) rfl gx (k * 2) rfl (encN x) _ (fun w hS=>HRX.out _ hS) HUN.out rfl size_nodes) hHeld ?_;simp only [Act.put,zq1,zq2,zq3,zq4,zq5,zq6];refine wpAnyH_ready (rs:=[8]) (by kernel_rfl) (by simp) ?_;refine AllReadyH.cons rfl (fun KQ hK=>?_) AllReadyH.nil;go_simp;refine (HSA.out _ hHeld).mono ?_;rintro e z1 ⟨rfl,a1⟩;have HZ:=hidden (grow_trans hHeld a1);refine hK.out _ _ (HZ.out) (fun hHeld=>?_);clear hK KQ;refine tkp 9 (.bool bb) hHeld ?_;simp only [Act.put,zq1,zq2,zq3,zq4,zq5,zq6];refine wpAnyH_done (by kernel_rfl) ?_ _;clear hHeld;have hb3:=hidden HZ.out;clear HZ hb2
          go_wp2_with fail
          exact ⟨⟨k+1,bb,by omega,rfl,by go_num,HBN.out,hb3.out⟩,by simp [intOf];omega⟩
        · have HBX:Hid (b=X.any fun x=>decide (prN y=x)):=by
            show _=_
            by_cases h1:k<lx
            · have h2:b=true:=by
                cases b with
                | true=>rfl
                | false=>exact absurd ⟨h1,rfl⟩ hgo
              have h3:=hbq.out;rw [h2] at h3 ⊢;obtain ⟨x,hx,h4⟩:=List.any_eq_true.1 h3.symm;exact (List.any_eq_true.2 ⟨x,List.mem_of_mem_take hx,h4⟩).symm
            · have h3:=hbq.out
              rw [List.take_of_length_le (by have:=HLN.out.2.2.1;omega)] at h3;exact h3
          have HFR:Hid (frC X (Y.take (i+1))=q+(if b=true then 0 else 1)):=by
            show _=_;rw [HSN.out,frC_snoc,← HBX.out,hq.out]
          clear hbq HBX HXR hq;cases b with
          | true=>
            have HYES:Hid (q=frC X (Y.take (i+1))):=by
              show _=_;rw [HFR.out,if_pos rfl,Nat.add_zero]
            have HNO:Hid True:=trivial;clear HFR hgo
            by_cases h1:k<lx
            · have y1:(k:Int)<(lx:Int):=by omega
              have HNX:=hidden (HYES.out);clear HYES HNO
              go_wp2_with fail
              exact ⟨⟨i+1,q,by omega,rfl,by go_num,HNX.out,by omega,hb2.out⟩,by simp [intOf];omega⟩
            · have y1: ¬(k:Int)<(lx:Int):=by omega
              have HNX:=hidden (HYES.out);clear HYES HNO
              go_wp2_with fail
              exact ⟨⟨i+1,q,by omega,rfl,by go_num,HNX.out,by omega,hb2.out⟩,by simp [intOf];omega⟩
          | false=>
            have h1: ¬k<lx:=fun h=>hgo ⟨h,rfl⟩
            have y1: ¬(k:Int)<(lx:Int):=by omega
            have HNO:Hid (q+1=frC X (Y.take (i+1))):=by
              show _=_;rw [HFR.out,if_neg (by decide)]
            have HYES:Hid True:=trivial;clear HFR hgo;have HNX:=hidden (HNO.out);clear HYES HNO
            go_wp2_with fail
            exact ⟨⟨i+1,q+1,by omega,by go_num,by go_num,HNX.out,by omega,hb2.out⟩,by simp [intOf];omega⟩
    · have z1: ¬(i:Int)<(ly:Int):=by omega
      have hfin:q=frC X Y:=by
        have h1:=hq.out;rw [List.take_of_length_le (by have:=HLN.out.2.2.2.1;omega)] at h1;exact h1
      have HE:=hidden (grow_trans HB2.out hb.out);have HFN:=hidden hfin;clear hq hfin HYR HXR
      go_wp2_with fail
      go_ret;exact ⟨by rw [← HFN.out];rfl,HE.out⟩

end Go.Proofs.YtabiglnmfdpcfaaGreatDoor

namespace Go.Proofs.YtabiglnmfdpcfaaGreatDoor
variable {E es:List Ent}
variable {R g gs h k n n' o x:Nat}
variable {S fr':List Nat}
variable {cs cs':Lz}
variable {v v':Value}
variable {w w' w1 wb:World}
variable {xs xs':List Value}
set_option maxHeartbeats 8000000
set_option maxRecDepth 20000
open Go.RowKit

structure Fo (cs:Lz) (rs:List (Nat×List Ent)):Prop where
  hold:∀i,Go.Proofs.YtabiglnmfdpcfaaGreatDoor.own cs [] i=(rs.map (·.1)).count (i+1)
  tree:∀r∈rs,∃T,IsT cs r.1 T∧T.ents.Perm r.2
  dp:∀r∈rs,(sdC cs r.1).kind=2→(sdC cs r.1).dp=0

theorem Fo.rt {rs:List (Nat×List Ent)} (f:Fo cs rs) {r:Nat×List Ent} (hr:r∈rs):∃T,Rt cs r.1 T∧T.ents.Perm r.2:=by
  obtain ⟨T,h1,h2⟩:=f.tree r hr;refine ⟨T,⟨h1,f.dp r hr,?_⟩,h2⟩
  by_cases h0:r.1=0
  · exact .inl h0
  · refine .inr ?_
    rw [f.hold,show r.1-1+1=r.1 by omega];exact List.count_pos_iff.2 (List.mem_map_of_mem hr)
theorem Fo.le {rs:List (Nat×List Ent)} (f:Fo cs rs) (hl:rs.length≤1000000) (i:Nat):own cs [] i≤1000000:=by
  rw [f.hold];have:=List.count_le_length (a:=i+1) (l:=rs.map (·.1));rw [List.length_map] at this;omega
theorem Fo.step {rs:List (Nat×List Ent)} {top:Nat} {E':List Ent} {T':Tre} (f:Fo cs ((h,E)::rs)) (ho:∀i,own cs' [] i+(if h=i+1 then 1 else 0)=own cs [] i+(if top=i+1 then 1 else 0)) (keep:∀x X,IsT cs x X→(x=0∨0<cc cs' (x-1))→IsT cs' x X) (t:IsT cs' top T') (hd:(sdC cs' top).kind=2→(sdC cs' top).dp=0) (p:T'.ents.Perm E'):Fo cs' ((top,E')::rs):=by
  have hh:∀i,own cs' [] i=(((top,E')::rs).map (·.1)).count (i+1):=fun i=>by
    have h1:=ho i;rw [f.hold] at h1;simp only [List.map_cons,List.count_cons,beq_iff_eq] at h1 ⊢;omega
  have each:∀r∈rs,∃T,Rt cs' r.1 T∧T.ents.Perm r.2:=fun r hr=>by
    obtain ⟨T,q1,q2⟩:=f.rt (List.mem_cons_of_mem _ hr);have ho2:r.1=0∨0<own cs' [] (r.1-1):=by
      by_cases h0:r.1=0
      · exact .inl h0
      · refine .inr ?_
        rw [hh,show r.1-1+1=r.1 by omega];exact List.count_pos_iff.2 (List.mem_map_of_mem (List.mem_cons_of_mem _ hr))
    exact ⟨T,rt_tree q1 (keep _ _ q1.tree (ho2.imp id fun h=>by unfold own at h;omega)) ho2,q2⟩
  refine ⟨hh,fun r hr=>?_,fun r hr=>?_⟩
  · rcases List.mem_cons.1 hr with rfl | hr
    · exact ⟨T',t,p⟩
    · obtain ⟨T,q1,q2⟩:=each r hr
      exact ⟨T,q1.tree,q2⟩
  · rcases List.mem_cons.1 hr with rfl | hr
    · exact hd
    · obtain ⟨T,q1,q2⟩:=each r hr
      exact q1.dp
theorem Fo.more (W:Wf cs []) {rs:List (Nat×List Ent)} (f:Fo cs rs) {r:Nat×List Ent} (hr:r∈rs) (h0:r.1≠0):Fo (moreC cs (r.1-1)) (r::rs):=by
  have hc:0<cc cs (r.1-1):=by
    obtain ⟨T,q,_⟩:=f.rt hr;have:=q.own.resolve_left h0;unfold own at this;omega
  have each:∀q∈rs,∃T,Rt (moreC cs (r.1-1)) q.1 T∧T.ents.Perm q.2:=fun q hq=>by
    obtain ⟨T,q1,q2⟩:=f.rt hq;exact ⟨T,rt_more14 W hc q1,q2⟩
  refine ⟨fun i=>?_,fun q hq=>?_,fun q hq=>?_⟩
  · rw [own_more14 W hc,f.hold,List.map_cons,List.count_cons]
    simp only [beq_iff_eq];have e:(r.1-1=i)↔(r.1=i+1):=by omega
    simp only [e]
  · have hq:q∈rs:=(List.mem_cons.1 hq).elim (fun e=>e ▸ hr) id
    obtain ⟨T,q1,q2⟩:=each q hq;exact ⟨T,q1.tree,q2⟩
  · have hq:q∈rs:=(List.mem_cons.1 hq).elim (fun e=>e ▸ hr) id
    obtain ⟨T,q1,q2⟩:=each q hq;exact q1.dp
theorem Fo.again {rs:List (Nat×List Ent)} (f:Fo cs rs) {r:Nat×List Ent} (hr:r∈rs) (h0:r.1=0):Fo cs (r::rs):=by
  refine ⟨fun i=>?_,fun q hq=>?_,fun q hq=>?_⟩
  · rw [f.hold,List.map_cons,List.count_cons,if_neg (by simp [h0])]
    rfl
  · exact f.tree q ((List.mem_cons.1 hq).elim (fun e=>e ▸ hr) id)
  · exact f.dp q ((List.mem_cons.1 hq).elim (fun e=>e ▸ hr) id)
theorem Fo.built (b:Bd [] E 0 h cs'):Fo cs' [(h,E)]:=by
  refine ⟨fun i=>?_,fun r hr=>?_,fun r hr=>?_⟩
  · rw [b.eow,own_nil,List.map_cons,List.map_nil,List.count_cons,List.count_nil]
    simp only [beq_iff_eq]
  · obtain rfl:r=(h,E):=by simpa using hr
    exact b.tree
  · obtain rfl:r=(h,E):=by simpa using hr
    exact b.dp

def Bq (w1 w:World) (g gs R:Nat) (rs:List (Nat×List Ent)) (o:Nat) (P:World→Prop):Prop:=
  ∃S cs fr,Hs w S w g gs R cs fr∧(∀k∈S,w1.heap.size≤k∧k<w.heap.size)∧Kb w1 w∧Fo cs rs∧noc cs=o∧Kq S w P

theorem bq_pack {rs':List (Nat×List Ent)} {P:World→Prop} (hS:∀k∈S,w1.heap.size≤k∧k<w.heap.size) (hb:Kb w1 w) (hP:Kq S w P) (hh:Hs w S w' g gs R cs' fr') (f:Fo cs' rs') (hn:noc cs'=o):Bq w1 w' g gs R rs' o P:=by
  obtain ⟨S',q1,q2,q3,q4,q5⟩:=hh.from
  refine ⟨S',cs',fr',q1,fun k hk=>⟨?_,q4 k hk⟩,hb.trans (hh.mod.below (fun k hk=>(hS k hk).1) hb.size),f,hn,q3 _ hP⟩;rcases q2 k hk with e | e
  · exact (hS k e).1
  · exact Nat.le_trans hb.size e

section
variable {w1 w w':World} {g gs R o:Nat} {rs:List (Nat×List Ent)} {P Q:World→Prop}
theorem Bq.low (h:Bq w1 w g gs R rs o P):Kb w1 w:=by
  obtain ⟨S,cs,fr,_,_,b,_⟩:=h;exact b
theorem Bq.now (h:Bq w1 w g gs R rs o P):P w:=by
  obtain ⟨S,cs,fr,_,_,_,_,_,k⟩:=h;exact k.now
theorem Bq.grow (h:Bq w1 w g gs R rs o P) (hb:Kb w w'):Bq w1 w' g gs R rs o P:=by
  obtain ⟨S,cs,fr,h1,h2,h3,h4,h5,h6⟩:=h;exact ⟨S,cs,fr,h1.rebase hb,fun k hk=>⟨(h2 k hk).1,Nat.lt_of_lt_of_le (h2 k hk).2 hb.size⟩,grow_trans h3 hb,h4,h5,h6.grow hb⟩
theorem Bq.add (h:Bq w1 w g gs R rs o P) (hb:Kb w w') (hq:∀S:List Nat,(∀k∈S,k<w.heap.size)→Kq S w' Q):Bq w1 w' g gs R rs o (fun z=>P z∧Q z):=by
  obtain ⟨S,cs,fr,h1,h2,h3,h4,h5,h6⟩:=h.grow hb;obtain ⟨S0,cs0,fr0,g1,g2,g3,g4,g5,g6⟩:=h;refine ⟨S0,cs0,fr0,g1.rebase hb,fun k hk=>⟨(g2 k hk).1,Nat.lt_of_lt_of_le (g2 k hk).2 hb.size⟩,h3,g4,g5,fun z m=>⟨g6.grow hb z m,hq S0 (fun k hk=>(g2 k hk).2) z m⟩⟩
theorem Bq.occ (h:Bq w1 w g gs R rs o P):Kc 10 #[.pointer (some ⟨g,0,none⟩)] w fun e w'=>e=.returned (.int .i64 (o:Int))∧Kb w w':=by
  obtain ⟨S,cs,fr,h1,h2,h3,h4,rfl,h6⟩:=h;exact hs_occ h1
theorem Bq.dig (h:Bq w1 w g gs R rs o P) {x:Nat} {E:List Ent} (hx:(x,E)∈rs) (hL:Laid w):Kc 11 #[.pointer (some ⟨g,0,none⟩),.int .i64 (x:Int)] w fun e w'=>e=.returned (.agg (B (rt 256 0 E)))∧Kb w w':=by
  obtain ⟨S,cs,fr,h1,h2,h3,h4,h5,h6⟩:=h;obtain ⟨T,r,p⟩:=h4.rt hx;have:=sdig_any h1.vw (x:Int) hL;rwa [sdD_vDg,r.dig h1.2,rt_perm _ _ _ _ p] at this
theorem Bq.size (h:Bq w1 w g gs R rs o P) {x:Nat} {E:List Ent} (hx:(x,E)∈rs):Kc 18 #[.pointer (some ⟨g,0,none⟩),.int .i64 (x:Int)] w fun e w'=>e=.returned (.int .i64 (E.length:Int))∧Kb w w':=by
  obtain ⟨S,cs,fr,h1,h2,h3,h4,h5,h6⟩:=h;obtain ⟨T,r,p⟩:=h4.rt hx;have:=size_any h1.vw (x:Int);rwa [cat_nat,r.size h1.2,p.length_eq] at this
theorem Bq.root (h:Bq w1 w g gs R rs o P) {x:Nat} {E:List Ent} (hx:(x,E)∈rs):Kc 19 #[.pointer (some ⟨g,0,none⟩),.int .i64 (x:Int)] w fun e w'=>e=.returned (.int .i64 0)∧Kb w w':=by
  obtain ⟨S,cs,fr,h1,h2,h3,h4,h5,h6⟩:=h;obtain ⟨T,r,p⟩:=h4.rt hx;have:=root_any h1.vw (x:Int);rwa [r.root] at this
theorem Bq.held (h:Bq w1 w g gs R rs o P) {x:Nat} {E:List Ent} (hx:(x,E)∈rs) (h0:x≠0):Kc 22 #[.pointer (some ⟨g,0,none⟩),.int .i64 (x:Int)] w fun e w'=>(∃n:Nat,0<n∧e=.returned (.int .i64 (n:Int)))∧Kb w w':=by
  obtain ⟨S,cs,fr,h1,h2,h3,h4,h5,h6⟩:=h;obtain ⟨T,r,p⟩:=h4.rt hx;refine (held_any h1.vw (x:Int)).mono fun e w' ⟨q1,q2⟩=>⟨⟨_,?_,q1⟩,q2⟩
  have ho:=r.own.resolve_left h0;have hc:cot cs (x:Int)=cc cs (x-1):=by rw [cot,if_pos (by omega),show ((x:Int)-1).toNat=x-1 by omega]
  rw [hc,cat_nat,sdC,if_neg h0];unfold own at ho;rw [List.count_nil] at ho;omega
theorem Bq.hold (h:Bq w1 w g gs R rs o P) {x:Nat} {E:List Ent} (hx:(x,E)∈rs) (h0:x≠0) (hl:rs.length≤1000000):Kc 9 #[.pointer (some ⟨g,0,none⟩),.int .i64 (x:Int)] w fun e w'=>e=.returned (.int .i64 0)∧Bq w1 w' g gs R ((x,E)::rs) o P:=by
  obtain ⟨S,cs,fr,h1,h2,h3,h4,h5,h6⟩:=h;obtain ⟨T,r,p⟩:=h4.rt hx;have ho:0<Go.Proofs.YtabiglnmfdpcfaaGreatDoor.own cs [] (x-1):=r.own.resolve_left h0;have hc:0<cc cs (x-1):=by unfold own at ho;omega
  have hm:=h1.2.ccLe (x-1) 1000000 (h4.le hl _);obtain ⟨_,s2,s3⟩:=h1.sizes;have:=hs_hold h1 (x-1) hc (by omega);rw [show ((x-1:Nat):Int)+1=(x:Int) by omega] at this;refine this.mono ?_;rintro e w' ⟨rfl,hh⟩;exact ⟨rfl,bq_pack h2 h3 h6 hh (h4.more h1.2 hx h0) (by
    have e:noc (moreC cs (x-1))=noc cs:=moreC_noc hc;rw [e];exact h5)⟩
theorem Bq.again (h:Bq w1 w g gs R rs o P) {x:Nat} {E:List Ent} (hx:(x,E)∈rs) (h0:x=0):Bq w1 w g gs R ((x,E)::rs) o P:=by
  obtain ⟨S,cs,fr,h1,h2,h3,h4,h5,h6⟩:=h;exact ⟨S,cs,fr,h1,h2,h3,h4.again hx h0,h5,h6⟩
theorem Bq.only (h:Bq w1 w g gs R [(x,E)] o P):o=(trN 256 0 E).length:=by
  obtain ⟨S,cs,fr,h1,h2,h3,h4,rfl,h6⟩:=h;obtain ⟨T,r,p⟩:=h4.rt (List.mem_singleton_self _);have e:Go.Proofs.YtabiglnmfdpcfaaGreatDoor.noc cs=nN 256 0 T.ents:=r.only h1.2 fun i hi=>by
    rw [h4.hold,List.map_cons,List.map_nil,List.count_cons,List.count_nil] at hi;simp only [beq_iff_eq,Nat.zero_add] at hi;apply Classical.byContradiction;intro q;rw [if_neg q] at hi;exact hi rfl
  have e2:=num_is h1.2 T x 0 r.tree r.dp;have e3:=nds_num T;rw [nds_tr h1.2 T x 0 256 r.tree r.dp rfl] at e3;rw [e,← e2,← e3];exact trN_perm_len 256 0 p
end

theorem dpI_inj {a b:Option Nat} (h:dpI a=dpI b):a=b:=by
  cases a <;> cases b <;> simp only [dpI] at h
  · rfl
  · omega
  · omega
  · exact congrArg some (by omega)
theorem frC_fresh (W:Wf cs []) {h:Nat} {T:Tre} {ks:List Wt} {q:Int} {ps:List Pn} {G:Gt} (r:IsT cs h T) (hd:(sdC cs h).kind=2→(sdC cs h).dp=0) (g:GrOk cs 0 h T ks [] q ps G):frC ((trN 256 0 T.ents).map dpE) ((trN 256 0 G.ents).map dpE)=ps.length:=by
  rw [← fresh_tr W r hd g (fun y=>((trN 256 0 T.ents).map dpE).any fun x=>decide (dpE y=x)) fun y _=>?_]
  · unfold frC
    rw [List.filter_map,List.length_map];rfl
  · rw [List.any_eq_true]
    constructor
    · rintro ⟨x,hx,e⟩
      obtain ⟨z,hz,rfl⟩:=List.mem_map.1 hx;have e:=of_decide_eq_true e;unfold dpE at e;injection e with e1 e2;exact ⟨z,hz,dpI_inj e1,e2⟩
    · rintro ⟨z,hz,e1,e2⟩
      exact ⟨dpE z,List.mem_map_of_mem hz,decide_eq_true (by unfold dpE;rw [e1,e2])⟩

theorem Bq.apply {rs:List (Nat×List Ent)} {P:World→Prop} (h:Bq w1 w g gs R ((x,E)::rs) o P) (v:Value) (l:List Wt) (hv:∀z,P z→WrAt z v l) (hL:∀z,P z→Laid z) (hn:l.length≤64) (ht:l.any tooL=false) (hf:∀ks,Lat l ks→o+258 * ks.length≤R) (few:rs.length≤1000):
    Kc 13 #[.pointer (some ⟨g,0,none⟩),.int .i64 (x:Int),v] w fun e w'=>∃(top:Nat) (ks:List Wt) (o':Nat),e=.returned (.tuple #[.int .i64 (top:Int),.int .i64 0])∧Lat l ks∧Bq w1 w' g gs R ((top,ovE E ks)::rs) o' P∧((x=0∨x∈rs.map (·.1))→(E.Pairwise fun a b=>Ahead a.1 b.1)→∀F,(F.Pairwise fun a b=>Ahead a.1 b.1)→F.Perm (ovE E ks)→o'=o+frC ((trN 256 0 E).map dpE) ((trN 256 0 F).map dpE)):=by
  obtain ⟨S,cs,fr,h1,h2,h3,h4,rfl,h6⟩:=h;obtain ⟨T,r,p⟩:=h4.rt (List.mem_cons_self (a:=(x,E)) (l:=rs));refine (apply_any h1 r v l (hv _ h6.now) (fun y hy z m=>(hv _ (h6 z m)).reads y hy) (fun z m=>hL _ (h6 z m)) (h4.le (by rw [List.length_cons];omega)) hn ht hf).mono ?_;rintro e w' ⟨ks,q,ps,G,top,cs',fr',rfl,hh,lat,gr,bt,_⟩;obtain ⟨U,u1,u2⟩:=bt.tree;refine ⟨top,ks,_,rfl,lat,bq_pack h2 h3 h6 hh (h4.step bt.own bt.keep u1 bt.dp (u2.trans (ovE_perm p ks))) rfl,fun hx hE F hF hp=>?_⟩;have e1:T.ents=E:=rise_one _ _ (ents_rise h1.2 T x r.tree) hE p;have e2:G.ents=F:=rise_one _ _ (gents_rise h1.2 G ps 0 ps.length q 0 gr.isG gr.ok (fun _ _ _ _ j hj=>by omega)) hF (gr.ents.trans ((ovE_perm p ks).trans hp.symm));have e3:=frC_fresh h1.2 r.tree r.dp gr;rw [e1,e2] at e3;rw [e3];refine bt.just ?_;rcases hx with hx | hx
  · exact .inl hx
  · by_cases h0:x=0
    · exact .inl h0
    · refine .inr (.inl ?_)
      have ho:Go.Proofs.YtabiglnmfdpcfaaGreatDoor.own cs [] (x-1)=_:=h4.hold (x-1);rw [show x-1+1=x by omega,List.map_cons,List.count_cons] at ho;simp only [beq_self_eq_true,if_true] at ho;have hc:=List.count_pos_iff.2 hx;show 2≤cc cs (x-1);unfold own at ho;omega

theorem Bq.refused {rs:List (Nat×List Ent)} {P:World→Prop} (h:Bq w1 w g gs R ((x,E)::rs) o P) (v:Value) (l:List Wt) (hv:∀z,P z→WrAt z v l) (hn:l.length≤65536) (c:Int) (hc:(64<l.length∨l.any tooL=true)∧c=4∨(l.length≤64∧l.any tooL=false∧(∃ks,Lat l ks∧R<o+258 * ks.length)∧c=9)):
    Kc 13 #[.pointer (some ⟨g,0,none⟩),.int .i64 (x:Int),v] w fun e w'=>e=.returned (.tuple #[.int .i64 0,.int .i64 c])∧Bq w1 w' g gs R ((x,E)::rs) o P:=by
  obtain ⟨S,cs,fr,h1,h2,h3,h4,rfl,h6⟩:=h;obtain ⟨T,r,p⟩:=h4.rt (List.mem_cons_self (a:=(x,E)) (l:=rs));refine (apply_refused h1 (x:Int) v l (hv _ h6.now) hn c (fun k hk=>?_) (by rcases hc with ⟨_,q⟩ | ⟨_,_,_,q⟩ <;> omega)).mono fun e w' ⟨e1,hh⟩=>⟨e1,bq_pack h2 h3 h6 hh h4 rfl⟩
  rcases hc with ⟨q,rfl⟩ | ⟨q1,q2,⟨ks,q3,q4⟩,rfl⟩
  · exact bRf_long q _ _ _ _
  · rcases hk with q | q | q | ⟨ks',q,rfl⟩
    · omega
    · rw [q2] at q
      cases q
    · exact absurd r.at0 q
    · rw [r.at0,q.one q3]
      have:=q3.len;rw [bRf_ok q1 q2 (by omega),if_neg (by omega)]

theorem noc_len:∀(cs:Lz),noc cs≤cs.length
  | []=>Nat.le_refl _
  | p::r=>by
    have h:=noc_len r;unfold noc occs at h ⊢;rw [List.map_cons,List.length_cons]
    first
      |(rw [List.countP_cons];split <;> omega)
      |(rw [List.filter_cons];split <;> simp only [List.length_cons] <;> omega)

theorem bq_build (H:Hs w1 [] w g gs R [] []) {v:Value} {V:Nat→Value} {E:List Ent} (hL:∀z,Kb w1 z→Laid z) (hp:∀z,Kb w1 z→PrAt z v V E) (h12:E.length≤12) (ha:E.Pairwise fun a b=>a.1≠b.1) (hl:∀e∈E,e.2.length≤1024) (hR:E.length * 257≤R) (P:World→Prop) (hP:∀z,Kb w1 z→P z):
    Kc 8 #[.pointer (some ⟨g,0,none⟩),v,.int .i64 0] w fun e w'=>∃(root o:Nat),e=.returned (.tuple #[.int .i64 (root:Int),.bool true])∧Bq w1 w' g gs R [(root,E)] o P∧o≤E.length * 257:=by
  have hlow:=H.low;obtain ⟨⟨vp,vf,s,m,n⟩,W⟩:=H;have hS:∀k∈stB g gs vp vf [],w1.heap.size≤k:=fun k hk=>by
    rcases n k hk with e | e
    · cases e
    · exact e
  refine (build_all 256 0 rfl w g gs vp vf R [] v V E ⟨s,W,Kq.of_low hL hlow hS,Kq.of_low hp hlow hS,h12,ha,hl,fun x _ y _ j hj=>by omega,by simpa using hR⟩).mono ?_;rintro e w' ⟨root,cs',rfl,b,t⟩;refine ⟨root,_,rfl,bq_pack (fun k hk=>⟨hS k hk,s.lts k hk⟩) hlow (Kq.of_low hP hlow hS) ⟨t,b.wf⟩ (Fo.built b) rfl,?_⟩;have:=b.num;have h2:noc cs'≤cs'.length:=noc_len cs';have h3:cs'.length≤E.length * 257:=by simpa using this
  omega

end Go.Proofs.YtabiglnmfdpcfaaGreatDoor

namespace Go.Proofs.YtabiglnmfdpcfaaGreatDoor
variable {E es:List Ent}
variable {R g gs h k n n' o x:Nat}
variable {S fr':List Nat}
variable {cs cs':Lz}
variable {v v':Value}
variable {w w' w1 wb:World}
variable {xs xs':List Value}
set_option maxHeartbeats 8000000
set_option maxRecDepth 20000
open Go.RowKit

theorem step_bsw {ops:Array Oper} {o:Oper} {a:Act} {K:Act→World→Prop} {Q:Exit→Act→World→Prop} {E:Prop} (w:World) (hgd:o.guard=none) (x:Operand) (ho:o.op=.buildSlice 23 1 #[(0,x)])
    (X:Wt) (hx:a.eval x=.agg (encW X).toArray) (hl:(encW X).length=34)
    (hk:∀w' g,w.heap.size≤g→Blk w' g 37 (encW X).toArray→Kb w w'→K (a.put o.dst (.slice (some ⟨g,0,none⟩) 1 1)) w'):if Region.wanted o (yielded ops a.tmps)=true then Oper.wp Tryz.prog o a w K Q else E:=by
  have hw:Region.wanted o (yielded ops a.tmps)=true:=by simp [Region.wanted,hgd]
  rw [if_pos hw];obtain ⟨i,z,hi,hz,hs,_,hzs⟩:=info_write;have hrun:=run_buildSlice (P:=Tryz.prog) w 23 37 1 #[(0,.agg (encW X).toArray)] (encW X).toArray i z Tryz.underlying23 hi hz (by rw [hs];omega) (by rw [hs];omega) (by
    rw [hs];obtain ⟨zs,hzz,hzl⟩:∃zs:List Value,(Array.range (1 * 34)).map (z.cells[· % z.cells.size]!)=zs.toArray∧zs.length=34:=⟨_,(Array.toArray_toList).symm,by simp⟩;rw [hzz];have:=fill_one (fun i=>some (i * 34,34)) 0 0 34 (.agg (encW X).toArray) (encW X) zs [] rfl rfl hl (by omega);rw [show (#[(0,Value.agg (encW X).toArray)]:Array (Nat×Value)).toList=[(0,Value.agg (encW X).toArray)] from rfl,this,Instr.fill];simp [hzl])
  unfold Oper.wp execOp;simp only [ho,List.map_toArray,List.map_cons,List.map_nil,hx,Sem.run_bind,hrun,Result.andThen_ok,Sem.run_pure];exact hk _ w.heap.size (Nat.le_refl _) (Blk.new w _ _) (grow_alloc w _)

theorem step_bspw {ops:Array Oper} {o:Oper} {a:Act} {K:Act→World→Prop} {Q:Exit→Act→World→Prop} {E:Prop} (w:World) (hgd:o.guard=none) (x:Operand) (ho:o.op=.buildSlice 22 1 #[(0,x)])
    (k:Lq) (v:Value) (hx:a.eval x=.agg (encP k v).toArray) (hl:k.length=32)
    (hk:∀w' g,w.heap.size≤g→Blk w' g 62 (encP k v).toArray→Kb w w'→K (a.put o.dst (.slice (some ⟨g,0,none⟩) 1 1)) w'):if Region.wanted o (yielded ops a.tmps)=true then Oper.wp Tryz.prog o a w K Q else E:=by
  have hw:Region.wanted o (yielded ops a.tmps)=true:=by simp [Region.wanted,hgd]
  rw [if_pos hw];obtain ⟨i,z,hi,hz,hs,_,hzs⟩:=info_pair;have hrun:=run_buildSlice (P:=Tryz.prog) w 22 62 1 #[(0,.agg (encP k v).toArray)] (encP k v).toArray i z Tryz.underlying22 hi hz (by rw [hs];omega) (by rw [hs];omega) (by
    rw [hs];obtain ⟨zs,hzz,hzl⟩:∃zs:List Value,(Array.range (1 * 33)).map (z.cells[· % z.cells.size]!)=zs.toArray∧zs.length=33:=⟨_,(Array.toArray_toList).symm,by simp⟩;rw [hzz];have:=fill_one (fun i=>some (i * 33,33)) 0 0 33 (.agg (encP k v).toArray) (encP k v) zs [] rfl rfl (encP_length k v hl) (by omega);rw [show (#[(0,Value.agg (encP k v).toArray)]:Array (Nat×Value)).toList=[(0,Value.agg (encP k v).toArray)] from rfl,this,Instr.fill];simp [hzl])
  unfold Oper.wp execOp;simp only [ho,List.map_toArray,List.map_cons,List.map_nil,hx,Sem.run_bind,hrun,Result.andThen_ok,Sem.run_pure];exact hk _ w.heap.size (Nat.le_refl _) (Blk.new w _ _) (grow_alloc w _)

theorem step_appLw {P:Program} {ops:Array Oper} {o:Oper} {a:Act} {K:Act→World→Prop} {Q:Exit→Act→World→Prop} {E:Prop} (w:World) (hgd:o.guard=none) (s x:Operand) (t:TypeId)
    (ho:o.op=.call { callee:=.builtin .append,args:= #[s,x],argTypes:= #[t,t]})
    (e:TypeId) (size bytes:Nat) (ht:P.underlying t=some (.slice e)) (hin:∃i z,P.info? e=some i∧i.zero=some z∧i.size=size∧i.bytes=bytes∧z.cells.size=size) (hsz:0<size)
    (v:Value) (n:Nat) (xs:List Value) (hs:a.eval s=v) (hown:Lst w e size v n xs)
    (g:Nat) (news:List Value) (hx:a.eval x=.slice (some ⟨g,0,none⟩) 1 1) (hb:Blk w g e news.toArray) (hl:news.length=size) (h1:∀u∈news,u.oneCell'=true)
    (h63:n+1≤maxLen) (hbytes:(n+1) * bytes≤140737488355328)
    (hk:∀v' w',Lst w' e size v' (n+1) (xs++news)→w.grownBy w' v.ownBlock→WhereL w v v'→K (a.put o.dst v') w'):if Region.wanted o (yielded ops a.tmps)=true then Oper.wp P o a w K Q else E:=by
  have hw:Region.wanted o (yielded ops a.tmps)=true:=by simp [Region.wanted,hgd]
  rw [if_pos hw];obtain ⟨i,z,hi,hz,hsize,hby,hzs⟩:=hin;obtain ⟨v',w',hr,h2,h3,h4⟩:=run_appL (P:=P) w t o.type e i z size bytes ht hi hz hsize hby hzs hsz v n xs hown ⟨g,0,none⟩ 1 1 news (by omega) (by
    intro j q hq;rw [Addr.add_lit,Nat.zero_add,hb.cell];simpa using hq) h1 (by omega) h63 hbytes
  unfold Oper.wp execOp;simp only [ho,resolve,invoke,builtin,Sem.run_bind,Sem.run_pure,Result.andThen_ok,List.map_toArray,List.map_cons,List.map_nil,hs,hx,hr];exact hk v' w' h2 h3 h4
theorem AccP.appL (h:AccP wb w v n xs) (k1:Lst w' 62 33 v' n' xs') (k2:w.grownBy w' v.ownBlock) (k3:WhereL w v v'):AccP wb w' v' n' xs':=by
  refine h.app ⟨k1.1,?_⟩ k2;rcases k1.2 with hh | ⟨g',cap,cur,e,hb',rest⟩
  · exact .inl hh
  · refine .inr ⟨g',cap,cur,e,?_,rest⟩
    rcases k3 with k3 | ⟨k,e2,k4⟩
    · exact (h.own.lt g' (by rw [← k3,e];rfl)).1
    · rw [e] at e2
      simp only [Value.ownBlock,Option.some.injEq] at e2;have:=h.bel.size;omega
theorem AccP.lst (h:AccP wb w v n xs):Lst w 62 33 v n xs:=by
  refine ⟨h.own.1,?_⟩;rcases h.own.2 with hh | ⟨g',cap,cur,e,hb',rest⟩
  · exact .inl hh
  · exact .inr ⟨g',cap,cur,e,Nat.zero_le _,rest⟩

def RvPost (es:List Ent) (ls:List Wt) (w:World) (e:Ending) (w':World):Prop:=∃v rs,e=.returned v∧Lat ((wes es++ls).map nrm) (rs.map nrm)∧w'.ownsRow w.heap.size 62 33 v (itsOf rs).length (flatP (itsOf rs))∧(∀x∈rs,WtOk x∧Reads w' x.v x.b)∧rs.length≤es.length+ls.length∧Kb w w'

set_option maxRecDepth 100000 in
theorem roverride_any (pv lv:Value) (V:Nat→Value) (es:List Ent) (ls:List Wt) (w:World) (hp:PrAt w pv V es) (hl:WrAt w lv ls) (hn:es.length+ls.length≤4096) (hlp:∀i,i<es.length→(es.getD i e00).2.length≤140737488355328) (hll:∀x∈ls,x.b.length≤140737488355328):Kc 16 #[pv,lv] w (RvPost es ls w):=by
  obtain ⟨fs,hu⟩:=u_write;have HUW:=hidden hu;obtain ⟨fsp,hup⟩:=u_pair;have HUP:=hidden hup;obtain ⟨pa,pc,rfl,p1,p2,p3⟩:=id hp;have HPR:=hidden p2;have HPK:=hidden p3;have HLV:=hidden hl;have HLL:=hidden (And.intro hlp hll);obtain ⟨n,hn0⟩:∃n,n=es.length:=⟨_,rfl⟩;have HN:Hid (n=es.length∧n+ls.length≤4096):=⟨hn0,by rw [hn0];exact hn⟩;obtain ⟨la,lc,hlv⟩:∃la lc,lv=.slice la ls.length lc:=by obtain ⟨a,c,e,_⟩:=hl;exact ⟨a,c,e⟩
  obtain ⟨lm,hlm⟩:∃lm,lm=ls.length:=⟨_,rfl⟩;rw [← hlm] at hlv;subst hlv;rw [← hn0];clear hp hl hn hlp hll hu hup p1 p2 p3 hn0 hlm;go_enter Tryz.func16,Tryz.ntmps16
  go_wp2_with fail
  go_loopw [5,6] (fun av iv wr=>∃(k:Nat),iv=.int .i64 (k:Int)∧k≤n∧(∃a m c,av=.slice a m c)∧Hid (AccW w wr av k (flatE encW (wesV V es k)))) (fun _ iv _=>n-(intOf iv).toNat)
  case atStart=>exact ⟨0,rfl,by omega,⟨_,_,_,rfl⟩,AccW.nil w⟩
  case round=>
    obtain ⟨k,rfl,hkn,⟨aa,am,ac,rfl⟩,hacc⟩:=hrel
    by_cases hlt:k<n
    · as_aux_lemma=>
        have z1:(k:Int)<(n:Int):=by omega
        have z0:(0:Int)≤(k:Int):=by omega
        have hkl:k<es.length:=by have:=HN.out;omega
        obtain ⟨g,off,rfl,hrg⟩:=HPR.out (by omega);obtain ⟨hkey,hrd⟩:=HPK.out k hkl;have HRG:Hid (∀w',Kb w w'→w'.rangeAt g (off+k * 33) (encP (es.getD k e00).1 (V k))):=fun w' hb=>rng_grow (hrg k hkl) hb
        have HWO:Hid (WtOk (asW (es.getD k e00) (V k))):=asW_ok hkey hrd;obtain ⟨va,vc,hV⟩:∃va vc,V k=.slice va (es.getD k e00).2.length vc:=by obtain ⟨a,c,e,_⟩:=hrd;exact ⟨a,c,e⟩
        obtain ⟨K,hK⟩:∃K,K=(es.getD k e00).1:=⟨_,rfl⟩;obtain ⟨b,hb⟩:∃b,b=(es.getD k e00).2:=⟨_,rfl⟩;obtain ⟨vl,hvl⟩:∃vl,vl=(es.getD k e00).2.length:=⟨_,rfl⟩;have HKL:Hid (K.length=32):=by rw [hK];exact hkey.1
        rw [← hvl] at hV;rw [hV,← hK] at HRG;have HAW:Hid (asW (es.getD k e00) (V k)=⟨K,false,b,.slice va vl vc⟩):=by show _=_;unfold asW;rw [hV,hK,hb]
        rw [HAW.out] at HWO;have HBL:=hidden (built_wkv K b va vl vc HKL.out);have HLK:Hid ((Tryz.prog.info? 34).map (·.size)=some (B K).toList.length):=by show _=_;rw [B_toList,List.length_map,HKL.out];exact sz_path0
        obtain ⟨j,hj⟩:∃j,j=k+1:=⟨_,rfl⟩;have HJ:=hidden hj;have hk2:k≤200000:=by have:=HN.out;omega
        have hwi:=w64_succ hk2 hj;have HAM:Hid (am=k):=by
          obtain ⟨_,_,e⟩:=lst_slice hacc.out.own;injection e
        have HK6:Hid (k+1≤65536):=by show k+1≤65536;have:=HN.out;clear hwi;omega
        have HNX:Hid (flatE encW (wesV V es k)++encW ⟨K,false,b,.slice va vl vc⟩=flatE encW (wesV V es j)):=by show _=_;rw [hj,wesV_succ,HAW.out,flatE_snoc]
        have HIN:=hidden info_write;have HJN:Hid (j≤n):=by show j≤n;clear hwi;omega
        have hamk:=HAM.out;subst hamk;clear hkl hrg hkey hrd hV hK hb hvl hj hk2 HPR HAM
        go_wp2_with fail
        have d0:Kb w wr.drew:=grow_trans hacc.out.bel (Below.refl _ _).drew;refine wp_region_held_drew (S:=fun w'=>w'.rangeAt g (off+am * 33) (encP K (.slice va vl vc))) (by kernel_rfl) (HRG.out _ d0) (fun hHeld=>?_);refine tkp 0 (.slice aa am ac) hHeld ?_;simp only [Act.put,zq1,zq2,zq4,zq5,zq6];refine tkp 1 (.slice (some ⟨g,off,none⟩) n pc) hHeld ?_;simp only [Act.put,zq1,zq2,zq3,zq4,zq5,zq6];refine tkp 2 (.int .i64 (am:Int)) hHeld ?_;simp only [Act.put,zq1,zq2,zq3,zq4,zq5,zq6];refine tkp 3 (.pointer (some ⟨g,off+am * 33,none⟩)) hHeld ?_;simp only [Act.put,zq1,zq2,zq3,zq4,zq5,zq6];refine tkp 4 (.pointer (some ⟨g,off+am * 33,none⟩)) hHeld ?_;simp only [Act.put,zq1,zq2,zq3,zq4,zq5,zq6];refine tkg 5 (.agg (B K)) rfl (yieldsIf_load_mid rfl 34 (.tmp 19) rfl g (off+am * 33) rfl (B K).toList _ (fun w hS=>rng_key hS) Tryz.underlying34 rfl HLK.out) hHeld ?_;simp only [Act.put,zq1,zq2,zq3,zq4,zq5,zq6];refine tkp 6 (.slice (some ⟨g,off,none⟩) n pc) hHeld ?_;simp only [Act.put,zq1,zq2,zq3,zq4,zq5,zq6];refine tkp 7 (.int .i64 (am:Int)) hHeld ?_;simp only [Act.put,zq1,zq2,zq3,zq4,zq5,zq6];refine tkp 8 (.pointer (some ⟨g,off+am * 33,none⟩)) hHeld ?_;simp only [Act.put,zq1,zq2,zq3,zq4,zq5,zq6];refine tkp 9 (.pointer (some ⟨g,off+am * 33+32,none⟩)) hHeld ?_;simp only [Act.put,zq1,zq2,zq3,zq4,zq5,zq6];refine tkg 10 (.slice va vl vc) rfl (Or.inl ⟨by rfl,fun w hS=>by (have q1:=rng_val hS HKL.out;go_simp)⟩) hHeld ?_;simp only [Act.put,zq1,zq2,zq3,zq4,zq5,zq6];refine tkg 11 (.agg (encW ⟨K,false,b,.slice va vl vc⟩).toArray) rfl (Or.inl ⟨by rfl,fun w hS=>exec_bdw _ _ 37 _ (by rfl) _ (by rw [List.map_toArray];exact HBL.out) w⟩) hHeld ?_;simp only [Act.put,zq1,zq2,zq3,zq4,zq5,zq6];refine wpAnyH_ready (rs:=[12]) (by kernel_rfl) (by simp) ?_;refine AllReadyH.cons rfl (fun KQ hK=>?_) AllReadyH.nil;refine step_bsw _ rfl _ rfl ⟨K,false,b,.slice va vl vc⟩ rfl HWO.out.len ?_;intro w6 g6 hg6 B6 b6;have HA3:=hidden ((hacc.out.grow (Below.refl _ _).drew).grow b6);refine hK.out _ _ (HRG.out _ HA3.out.bel) (fun hHeld=>?_);clear hK KQ;refine wpAnyH_ready (rs:=[13]) (by kernel_rfl) (by simp) ?_;refine AllReadyH.cons rfl (fun KQ hK=>?_) AllReadyH.nil;refine step_appLw _ rfl _ _ _ rfl 37 34 64 Tryz.underlying23 HIN.out (by omega) (.slice aa am ac) am _ rfl HA3.out.own g6 (encW ⟨K,false,b,.slice va vl vc⟩) rfl B6 HWO.out.len HWO.out.one (by have:=HK6.out;simp only [maxLen];clear hwi;omega) (by have:=HK6.out;clear hwi;omega) ?_;intro u2 w7 k1 k2 k3;rw [HNX.out] at k1;have HA4:=hidden (HA3.out.app k1 k2 k3);clear HA3 k2 k3;obtain ⟨ua2,uc2,rfl⟩:=lst_slice k1;clear k1 B6;refine hK.out _ _ (HRG.out _ HA4.out.bel) (fun hHeld=>?_);clear hK KQ;refine tkp 14 (.slice ua2 (am+1) uc2) hHeld ?_;simp only [Act.put,zq1,zq2,zq3,zq4,zq5,zq6];refine wpAnyH_done (by kernel_rfl) ?_ _
        go_wp2_with fail
        rw [hwi];clear hwi;exact ⟨⟨j,rfl,HJN.out,⟨_,_,_,rfl⟩,by rw [HJ.out];rw [HJ.out] at HA4;exact HA4⟩,by have:=HJ.out;simp [intOf];omega⟩
    · have z1: ¬(k:Int)<(n:Int):=by omega
      obtain rfl:k=n:=by omega
      have HAM:Hid (am=k):=by
        obtain ⟨_,_,e⟩:=lst_slice hacc.out.own;injection e
      have hamk:=HAM.out;subst hamk;clear HAM hlt z1 hkn;obtain ⟨al,hal⟩:∃al,al=wesV V es am++ls:=⟨_,rfl⟩;have HAL:Hid (flatE encW (wesV V es am)++flatE encW ls=flatE encW al∧al.length=am+ls.length∧al.map nrm=(wes es++ls).map nrm):=by
        refine ⟨by rw [hal,flatE_app],by rw [hal,List.length_append,wesV_len],?_⟩;rw [hal,List.map_append,List.map_append,HN.out.1,wesV_nrm]
      have HALO:Hid (∀w',Kb w w'→∀x∈al,WtOk x∧Reads w' x.v x.b∧x.b.length≤140737488355328):=fun w' hb x hx=>by
        rw [hal] at hx;rcases List.mem_append.1 hx with hx | hx
        · unfold wesV at hx
          obtain ⟨i,hi,rfl⟩:=List.mem_map.1 hx;have hi2:i<es.length:=by have:=List.mem_range.1 hi;have:=HN.out;omega
          obtain ⟨h1,h2⟩:=HPK.out i hi2;exact ⟨asW_ok h1 h2,h2.grow hb,HLL.out.1 i hi2⟩
        · exact ⟨HLV.out.ok x hx,(HLV.out.reads x hx).grow hb,HLL.out.2 x hx⟩
      have HLM:Hid (lm=ls.length):=by
        obtain ⟨_,_,e,_⟩:=HLV.out;injection e
      have HSM:Hid (am+ls.length≤65536):=Nat.le_trans HN.out.2 (by decide);have HSM4:Hid (am+ls.length≤4096):=HN.out.2;have HORD:Hid (∀v' w',Kb w w'→Lst w' 37 34 v' (am+ls.length) (flatE encW al)→Kc 15 #[v'] w' (RoPost al w')):=fun v' w' hb h1=>rorder_any v' al w' (wrAt_own (by rw [HAL.out.2.1];exact h1) (fun x hx=>(HALO.out w' hb x hx).1) (fun x hx=>(HALO.out w' hb x hx).2.1)) (by rw [HAL.out.2.1];exact HSM.out) (fun x hx=>(HALO.out w' hb x hx).2.2)
      have HZ:Hid ((0:Int)=0):=rfl;clear hal HPR HPK
      go_wp2_with (first
        |(at_builtin;refine wpList_appWs _ rfl _ _ rfl _ _ am _ ls rfl rfl hacc.out.own (HLV.out.grow hacc.out.bel) HSM.out ?_;intro u1 w5 k1 k2 k3;rw [HAL.out.1] at k1;have HA5:=hidden (hacc.out.app k1 k2 k3);clear k2 k3;obtain ⟨ua1,uc1,rfl⟩:=lst_slice k1;clear k1)
        |(go_at_call 15;refine (HORD.out _ _ HA5.out.bel HA5.out.own).mono ?_;rintro e w6 ⟨v2,rs,rfl,ho1,ho2,ho3,ho4,ho5⟩;have HOR:=hidden ho1;have HOL:=hidden ho2;have HOO:=hidden ho3;have HOF:=hidden ho4;have HOB:=hidden ho5;clear ho1 ho2 ho3 ho4 ho5;obtain ⟨ra,rc,rfl⟩:=lst_slice HOR.out))
      obtain ⟨m,hm0⟩:∃m,m=rs.length:=⟨_,rfl⟩;have HM:=hidden hm0;rw [← hm0];have HROW:Hid (∀w',Kb w6 w'→Lst w' 37 34 (.slice ra m rc) m (flatE encW rs)):=fun w' hb=>by have:=lst_grow HOR.out hb;rw [← hm0] at this;exact this
      have HM6:Hid (m≤4096):=by show m≤4096;have h1:=HOF.out;have:=HAL.out.2.1;have:=HSM4.out;omega
      have HB06:Hid (Kb w w6):=grow_trans HA5.out.bel HOB.out;have HPost:Hid (∀w' nv,AccP w6 w' nv (itsOf rs).length (flatP (itsOf rs))→RvPost es ls w (.returned nv) w'):=fun w' nv h1=>by
        refine ⟨nv,rs,rfl,by rw [← HAL.out.2.2];exact HOL.out,?_,fun x hx=>⟨(HOO.out x hx).1,(HOO.out x hx).2.1.grow h1.bel⟩,by have:=HOF.out;have:=HAL.out.2.1;have:=HN.out.1;omega,grow_trans HB06.out h1.bel⟩;refine ⟨h1.own.1,?_⟩;rcases h1.own.2 with hh | ⟨g',cap,cur,e,hb',rest⟩
        · exact .inl hh
        · exact .inr ⟨g',cap,cur,e,Nat.le_trans HB06.out.size hb',rest⟩
      have HOKS:Hid (∀x∈rs,WtOk x):=fun x hx=>(HOO.out x hx).1
      clear hm0 HOR HOL HOO HOF HOB HA5 HAL HALO HORD hacc HSM HLV HLL HB06
      go_loopw [7,8] (fun nv iv wr=>∃(i:Nat),iv=.int .i64 (i:Int)∧i≤m∧(∃a c,nv=.slice a (itsOf (rs.take i)).length c)∧Hid (AccP w6 wr nv (itsOf (rs.take i)).length (flatP (itsOf (rs.take i))))) (fun _ iv _=>m-(intOf iv).toNat)
      case atStart=>exact ⟨0,rfl,by omega,⟨_,_,rfl⟩,AccP.nil w6⟩
      case round=>
        obtain ⟨i,rfl,him,⟨na,nc,rfl⟩,hacc⟩:=hrel;obtain ⟨nl,hnl⟩:∃nl,nl=(itsOf (rs.take i)).length:=⟨_,rfl⟩;rw [← hnl] at hacc ⊢;have HNL:=hidden hnl;clear hnl
        by_cases hlt:i<m
        · as_aux_lemma=>
            have z1:(i:Int)<(m:Int):=by omega
            have z0:(0:Int)≤(i:Int):=by omega
            have hir:i<rs.length:=by have:=HM.out;omega
            obtain ⟨g,rc',hra,_⟩:=lst_pos (HROW.out w6 (Below.refl _ _)) (by omega);injection hra with hra hnn hrc;subst hra;clear hnn hrc;obtain ⟨X,hX⟩:∃X,X=rs[i]!:=⟨_,rfl⟩;have hXo:WtOk X:=by rw [hX,getElem!_pos rs i hir];exact HOKS.out _ (List.getElem_mem hir)
            have HRX:Hid (∀w',Kb w6 w'→w'.rangeAt g (i * 34) (encW X)):=fun w' hb=>by
              rw [hX,getElem!_pos rs i hir];exact (lstE_range (HROW.out w' hb) HM.out.symm (fun x hx=>(HOKS.out x hx).len) i hir).1
            have HKL:=hidden hXo.hk.1;obtain ⟨xa,xc,hxv⟩:=hXo.hv;obtain ⟨xl,hxl⟩:∃xl,xl=X.b.length:=⟨_,rfl⟩;rw [← hxl] at hxv;obtain ⟨xg,hxg⟩:∃xg,xg=X.g:=⟨_,rfl⟩;have HGN:Hid (∀w',Kb w6 w'→w'.cell? ⟨g,i * 34+32,none⟩=some (.bool xg)∧w'.cell? ⟨g,i * 34+33,none⟩=some (.slice xa xl xc)∧w'.rangeAt g (i * 34) (B X.k).toList):=fun w' hb=>by
              have h1:=encW_gone (HRX.out w' hb) hXo.hk.1;have h2:=encW_val (HRX.out w' hb) hXo.hk.1;rw [hxg,← hxv];exact ⟨h1,h2,encW_key (HRX.out w' hb)⟩
            have HLK:Hid ((Tryz.prog.info? 34).map (·.size)=some (B X.k).toList.length):=by show _=_;rw [B_toList,List.length_map,hXo.hk.1];exact sz_path0
            obtain ⟨c4,_,_⟩:=HGN.out wr hacc.out.bel;have HBL:=hidden (built_pr X.k xa xl xc hXo.hk.1);obtain ⟨j,hj⟩:∃j,j=i+1:=⟨_,rfl⟩;have HJ:=hidden hj;have HTK:Hid (itsOf (rs.take j)=itsOf (rs.take i)++(if xg then [] else [((X.k,X.b),.slice xa xl xc)])):=by show _=_;rw [hj,itsOf_take rs i hir,← hX,hxg,hxv]
            have hi2:i≤200000:=by have:=HM6.out;omega
            have HN4:Hid (nl≤4096):=by show nl≤4096;rw [HNL.out];have:=itsOf_few (rs.take i);rw [List.length_take] at this;have:=HM6.out;omega
            have hwi:=w64_succ hi2 hj;have HJN:Hid (j≤m):=by show j≤m;clear hwi;omega
            clear hX hXo hxv hxl hxg hj hi2 hir;cases xg with
            | true=>
              have HE:Hid (itsOf (rs.take j)=itsOf (rs.take i)):=by show _=_;rw [HTK.out];simp
              go_wp2_with fail
              rw [hwi];clear hwi;exact ⟨⟨j,rfl,HJN.out,⟨_,_,by rw [HE.out,HNL.out]⟩,by rw [HE.out,← HNL.out];exact hacc⟩,by have:=HJ.out;simp [intOf];omega⟩
            | false=>
              have HE:Hid (itsOf (rs.take j)=itsOf (rs.take i)++[((X.k,X.b),.slice xa xl xc)]):=by show _=_;rw [HTK.out];simp
              have HE1:Hid ((itsOf (rs.take j)).length=nl+1):=by show _=_;rw [HE.out,List.length_append,HNL.out];rfl
              have HE2:Hid (flatP (itsOf (rs.take i))++encP X.k (.slice xa xl xc)=flatP (itsOf (rs.take j))):=by show _=_;rw [HE.out,flatP_snoc]
              have HIP:=hidden info_pair;have HEO:Hid (∀u∈encP X.k (.slice xa xl xc),u.oneCell'=true):=fun u hu=>by
                unfold encP at hu;rcases List.mem_append.1 hu with hu | hu
                · obtain ⟨z,_,rfl⟩:=List.mem_map.1 hu
                  rfl
                · obtain rfl:u=.slice xa xl xc:=by simpa using hu
                  rfl
              go_wp2_with fail
              have d0:Kb w6 wr.drew:=grow_trans hacc.out.bel (Below.refl _ _).drew;refine wp_region_held_drew (S:=fun w'=>w'.cell? ⟨g,i * 34+33,none⟩=some (.slice xa xl xc)∧w'.rangeAt g (i * 34) (B X.k).toList) (by kernel_rfl) ((HGN.out _ d0).2) (fun hHeld=>?_);refine tkp 0 (.slice na nl nc) hHeld ?_;simp only [Act.put,zq1,zq2,zq4,zq5,zq6];refine tkp 1 (.slice (some ⟨g,0,none⟩) m rc) hHeld ?_;simp only [Act.put,zq1,zq2,zq3,zq4,zq5,zq6];refine tkp 2 (.int .i64 (i:Int)) hHeld ?_;simp only [Act.put,zq1,zq2,zq3,zq4,zq5,zq6];refine tkp 3 (.pointer (some ⟨g,i * 34,none⟩)) hHeld ?_;simp only [Act.put,zq1,zq2,zq3,zq4,zq5,zq6];refine tkp 4 (.pointer (some ⟨g,i * 34,none⟩)) hHeld ?_;simp only [Act.put,zq1,zq2,zq3,zq4,zq5,zq6];refine tkg 5 (.agg (B X.k)) rfl (yieldsIf_load_mid rfl 34 (.tmp 50) rfl g (i * 34) rfl (B X.k).toList _ (fun w hS=>hS.2) Tryz.underlying34 rfl HLK.out) hHeld ?_;simp only [Act.put,zq1,zq2,zq3,zq4,zq5,zq6];refine tkp 6 (.slice (some ⟨g,0,none⟩) m rc) hHeld ?_;simp only [Act.put,zq1,zq2,zq3,zq4,zq5,zq6];refine tkp 7 (.int .i64 (i:Int)) hHeld ?_;simp only [Act.put,zq1,zq2,zq3,zq4,zq5,zq6];refine tkp 8 (.pointer (some ⟨g,i * 34,none⟩)) hHeld ?_;simp only [Act.put,zq1,zq2,zq3,zq4,zq5,zq6];refine tkp 9 (.pointer (some ⟨g,i * 34+33,none⟩)) hHeld ?_;simp only [Act.put,zq1,zq2,zq3,zq4,zq5,zq6];refine tkg 10 (.slice xa xl xc) rfl (Or.inl ⟨by rfl,fun w hS=>by (have q1:=hS.1;go_simp)⟩) hHeld ?_;simp only [Act.put,zq1,zq2,zq3,zq4,zq5,zq6];refine tkg 11 (.agg (encP X.k (.slice xa xl xc)).toArray) rfl (Or.inl ⟨by rfl,fun w hS=>exec_bdw _ _ 62 _ (by rfl) _ (by rw [List.map_toArray];exact HBL.out) w⟩) hHeld ?_;simp only [Act.put,zq1,zq2,zq3,zq4,zq5,zq6];refine wpAnyH_ready (rs:=[12]) (by kernel_rfl) (by simp) ?_;refine AllReadyH.cons rfl (fun KQ hK=>?_) AllReadyH.nil;refine step_bspw _ rfl _ rfl X.k (.slice xa xl xc) rfl HKL.out ?_;intro w9 g6 hg6 B6 b6;have HA3:=hidden ((hacc.out.grow (Below.refl _ _).drew).grow b6);refine hK.out _ _ (HGN.out _ HA3.out.bel).2 (fun hHeld=>?_);clear hK KQ;refine wpAnyH_ready (rs:=[13]) (by kernel_rfl) (by simp) ?_;refine AllReadyH.cons rfl (fun KQ hK=>?_) AllReadyH.nil;refine step_appLw _ rfl _ _ _ rfl 62 33 56 Tryz.underlying22 HIP.out (by omega) (.slice na nl nc) nl _ rfl HA3.out.lst g6 (encP X.k (.slice xa xl xc)) rfl B6 (encP_length _ _ HKL.out) HEO.out (by have:=HN4.out;simp only [maxLen];clear hwi;omega) (by have:=HN4.out;clear hwi;omega) ?_;intro u2 w10 k1 k2 k3;rw [HE2.out] at k1;have HA4:=hidden (HA3.out.appL k1 k2 k3);clear HA3 k2 k3;obtain ⟨ua2,uc2,rfl⟩:=lst_slice k1;clear k1 B6;refine hK.out _ _ (HGN.out _ HA4.out.bel).2 (fun hHeld=>?_);clear hK KQ;refine tkp 14 (.slice ua2 (nl+1) uc2) hHeld ?_;simp only [Act.put,zq1,zq2,zq3,zq4,zq5,zq6];refine wpAnyH_done (by kernel_rfl) ?_ _
              go_wp2_with fail
              rw [hwi];clear hwi;exact ⟨⟨j,rfl,HJN.out,⟨_,_,by rw [HE1.out]⟩,by rw [HE1.out];exact HA4⟩,by have:=HJ.out;simp [intOf];omega⟩
        · have z1: ¬(i:Int)<(m:Int):=by omega
          have HP:=hidden (HPost.out wr (.slice na nl nc) (by have h1:=hacc.out;rw [HNL.out,List.take_of_length_le (show rs.length≤i by have:=HM.out;omega)] at h1;rw [HNL.out,List.take_of_length_le (show rs.length≤i by have:=HM.out;omega)];exact h1));clear hacc;go_wp2
          go_ret;exact HP.out

end Go.Proofs.YtabiglnmfdpcfaaGreatDoor

namespace Go.Proofs.YtabiglnmfdpcfaaGreatDoor
variable {E es:List Ent}
variable {R g gs h k n n' o x:Nat}
variable {S fr':List Nat}
variable {cs cs':Lz}
variable {v v':Value}
variable {w w' w1 wb:World}
variable {xs xs':List Value}
set_option maxHeartbeats 8000000
set_option maxRecDepth 20000
open Go.RowKit

def mpV (V:Nat→Value) (es:List Ent) (k:Nat):List Wt:=((List.range k).filter fun i=>decide ((es.getD i e00).2.length≤1024)).map fun i=>asW (es.getD i e00) (V i)
theorem mpV_in (V:Nat→Value) (es:List Ent) (k:Nat) (h:(es.getD k e00).2.length≤1024):mpV V es (k+1)=mpV V es k++[asW (es.getD k e00) (V k)]:=by
  unfold mpV;rw [List.range_succ,List.filter_append,List.map_append];simp only [List.filter_cons,decide_eq_true h,List.filter_nil,if_true,List.map_cons,List.map_nil]
theorem mpV_out (V:Nat→Value) (es:List Ent) (k:Nat) (h: ¬(es.getD k e00).2.length≤1024):mpV V es (k+1)=mpV V es k:=by
  unfold mpV;rw [List.range_succ,List.filter_append,List.map_append];simp only [List.filter_cons,decide_eq_false h,List.filter_nil,Bool.false_eq_true,if_false,List.map_nil,List.append_nil]
theorem mpV_len (V:Nat→Value) (es:List Ent) (k:Nat):(mpV V es k).length≤k:=by
  unfold mpV;rw [List.length_map];have:=List.length_filter_le (fun i=>decide ((es.getD i e00).2.length≤1024)) (List.range k);rwa [List.length_range] at this
theorem mpV_mem {V:Nat→Value} {x:Wt} (h:x∈mpV V es k):∃i,i<k∧x=asW (es.getD i e00) (V i)∧x.b.length≤1024:=by
  obtain ⟨i,hi,rfl⟩:=List.mem_map.1 h;obtain ⟨h1,h2⟩:=List.mem_filter.1 hi;exact ⟨i,List.mem_range.1 h1,rfl,by simpa [asW] using h2⟩

def MpPost (w:World) (e:Ending) (w':World):Prop:=∃v rs,e=.returned v∧Ris rs∧w'.ownsRow w.heap.size 62 33 v (itsOf rs).length (flatP (itsOf rs))∧(∀x∈rs,WtOk x∧Reads w' x.v x.b)∧rs.length≤10∧(∀e∈entW rs,e.2.length≤1024)∧Kb w w'

theorem mp_of {al:List Wt} (hb:Kb w w1) (h10:al.length≤10) (hl:∀x∈al,x.b.length≤1024) {e:Ending} {w':World} (h:RvPost [] al w1 e w'):MpPost w e w':=by
  obtain ⟨v,rs,rfl,lat,own,rd,few,bel⟩:=h;refine ⟨v,rs,rfl,(by have:=List.pairwise_map.1 lat.ris;exact this),owR_base own hb.size,rd,by simpa using Nat.le_trans few (by simpa using h10),fun e he=>?_,grow_trans hb bel⟩;obtain ⟨x,hx,_,rfl⟩:=(entW_last lat).1 he;exact hl x (by simpa [wes] using hx.mem)

set_option maxRecDepth 100000 in
theorem map11_any (pv:Value) (V:Nat→Value) (es:List Ent) (w:World) (hp:PrAt w pv V es) (hn:es.length≤9000000000000000000):Kc 5 #[pv] w (MpPost w):=by
  obtain ⟨pa,pc,rfl,p1,p2,p3⟩:=id hp;have HPR:=hidden p2;have HPK:=hidden p3;obtain ⟨n,hn0⟩:∃n,n=es.length:=⟨_,rfl⟩;have HN:Hid (n=es.length):=hn0;have HRV:Hid (∀w1 av k,k≤10→k≤n→Kb w w1→Lst w1 37 34 av (mpV V es k).length (flatE encW (mpV V es k))→Kc 16 #[.slice none 0 0,av] w1 fun e w'=>∃v,e=.returned v∧MpPost w (.returned v) w'):=fun w1 av k k1 k2 hb ho=>by
    have hl:=mpV_len V es k;have ok:∀x∈mpV V es k,WtOk x∧Reads w1 x.v x.b:=fun x hx=>by
      obtain ⟨i,i1,rfl,_⟩:=mpV_mem hx;obtain ⟨q1,q2⟩:=p3 i (by omega);exact ⟨asW_ok q1 q2,q2.grow hb⟩
    have hw:WrAt w1 av (mpV V es k):=wrAt_own ho (fun x hx=>(ok x hx).1) fun x hx=>(ok x hx).2
    refine (roverride_any (.slice none 0 0) av V [] (mpV V es k) w1 ⟨none,0,rfl,Nat.le_refl _,fun h=>absurd h (by simp),fun i hi=>absurd hi (by simp)⟩ hw (by simp;omega) (fun i hi=>absurd hi (by simp)) fun x hx=>?_).mono fun e w' h=>?_
    · have:=(mpV_mem hx).choose_spec.2.2
      omega
    · obtain ⟨v,rs,rfl,r⟩:=mp_of hb (by omega) (fun x hx=>(mpV_mem hx).choose_spec.2.2) h
      exact ⟨v,rfl,v,rs,rfl,r⟩
  have HM:Hid (∀k x,mpV V es k=x→x.length≤k):=fun k x e=>by rw [← e];exact mpV_len V es k
  rw [← hn0] at hn ⊢;clear hp p1 p2 p3 hn0;generalize MpPost w=PP at HRV ⊢;go_enter Tryz.func5,Tryz.ntmps5
  go_wp2_with fail
  go_loopw [3,4] (fun av iv wr=>∃(k:Nat),iv=.int .i64 (k:Int)∧k≤n∧k≤10∧(∃a m c,av=.slice a m c)∧Hid (AccW w wr av (mpV V es k).length (flatE encW (mpV V es k)))) (fun _ iv _=>n-(intOf iv).toNat)
  case atStart=>exact ⟨0,rfl,by omega,by omega,⟨_,_,_,rfl⟩,AccW.nil w⟩
  case round=>
    obtain ⟨k,rfl,hkn,hk10,⟨aa,am,ac,rfl⟩,hacc⟩:=hrel;have HAM:Hid (am=(mpV V es k).length):=by
      obtain ⟨_,_,e⟩:=lst_slice hacc.out.own;injection e
    have HAK:Hid (am≤10):=by show am≤10;rw [HAM.out];exact Nat.le_trans (mpV_len V es k) hk10
    by_cases hlt:k<n∧k<10
    · obtain ⟨hlt,hlt10⟩:=hlt
      have z1:(k:Int)<(n:Int):=by omega
      have z2:(k:Int)<10:=by omega
      have z0:(0:Int)≤(k:Int):=by omega
      have hkl:k<es.length:=by have:=HN.out;omega
      obtain ⟨g,off,rfl,hrg⟩:=HPR.out (by omega);obtain ⟨hkey,hrd⟩:=HPK.out k hkl;have HRG:Hid (∀w',Kb w w'→w'.rangeAt g (off+k * 33) (encP (es.getD k e00).1 (V k))):=fun w' hb=>rng_grow (hrg k hkl) hb
      have HWO:Hid (WtOk (asW (es.getD k e00) (V k))):=asW_ok hkey hrd;obtain ⟨va,vc,hV⟩:∃va vc,V k=.slice va (es.getD k e00).2.length vc:=by obtain ⟨a,c,e,_⟩:=hrd;exact ⟨a,c,e⟩
      obtain ⟨K,hK⟩:∃K,K=(es.getD k e00).1:=⟨_,rfl⟩;obtain ⟨b,hb⟩:∃b,b=(es.getD k e00).2:=⟨_,rfl⟩;obtain ⟨vl,hvl⟩:∃vl,vl=(es.getD k e00).2.length:=⟨_,rfl⟩;have HKL:Hid (K.length=32):=by rw [hK];exact hkey.1
      rw [← hvl] at hV;rw [hV,← hK] at HRG;have HAW:Hid (asW (es.getD k e00) (V k)=⟨K,false,b,.slice va vl vc⟩):=by show _=_;unfold asW;rw [hV,hK,hb]
      rw [HAW.out] at HWO;have HBL:=hidden (built_wkv K b va vl vc HKL.out);have HLK:Hid ((Tryz.prog.info? 34).map (·.size)=some (B K).toList.length):=by show _=_;rw [B_toList,List.length_map,HKL.out];exact sz_path0
      obtain ⟨j,hj⟩:∃j,j=k+1:=⟨_,rfl⟩;have HJ:=hidden hj;have hk2:k≤200000:=by omega
      have hwi:=w64_succ hk2 hj;have HIN:=hidden info_write;have HJN:Hid (j≤n∧j≤10):=by show j≤n∧j≤10;clear hwi;omega
      have cv:wr.cell? ⟨g,off+k * 33+32,none⟩=some (.slice va vl vc):=rng_val (HRG.out _ hacc.out.bel) HKL.out
      by_cases hle:vl≤1024
      · have l1:(vl:Int)≤1024:=by omega
        have HK6:Hid (am+1≤65536):=by show am+1≤65536;have:=HAK.out;clear hwi;omega
        have HNX:Hid (flatE encW (mpV V es k)++encW ⟨K,false,b,.slice va vl vc⟩=flatE encW (mpV V es j)∧am+1=(mpV V es j).length):=by
          have e:=mpV_in V es k (by rw [← hvl];exact hle);rw [HAW.out] at e;refine ⟨?_,?_⟩
          · rw [hj,e,flatE_snoc]
          · rw [hj,e,List.length_append,HAM.out]
            rfl
        have HACC:Hid (AccW w wr (.slice aa am ac) am (flatE encW (mpV V es k))):=by
          have:=hacc.out;rw [← HAM.out] at this;exact this
        clear hacc HAM hkl hrg hkey hrd hV hK hb hvl hj hk2 HPR HRV HM hle;have hacc:=HACC;clear HACC
        go_wp2_with fail
        have d0:Kb w wr.drew:=grow_trans hacc.out.bel (Below.refl _ _).drew;refine wp_region_held_drew (S:=fun w'=>w'.rangeAt g (off+k * 33) (encP K (.slice va vl vc))) (by kernel_rfl) (HRG.out _ d0) (fun hHeld=>?_);refine tkp 0 (.slice aa am ac) hHeld ?_;simp only [Act.put,zq1,zq2,zq4,zq5,zq6];refine tkp 1 (.slice (some ⟨g,off,none⟩) n pc) hHeld ?_;simp only [Act.put,zq1,zq2,zq3,zq4,zq5,zq6];refine tkp 2 (.int .i64 (k:Int)) hHeld ?_;simp only [Act.put,zq1,zq2,zq3,zq4,zq5,zq6];refine tkp 3 (.pointer (some ⟨g,off+k * 33,none⟩)) hHeld ?_;simp only [Act.put,zq1,zq2,zq3,zq4,zq5,zq6];refine tkp 4 (.pointer (some ⟨g,off+k * 33,none⟩)) hHeld ?_;simp only [Act.put,zq1,zq2,zq3,zq4,zq5,zq6];refine tkg 5 (.agg (B K)) rfl (yieldsIf_load_mid rfl 34 (.tmp 26) rfl g (off+k * 33) rfl (B K).toList _ (fun w hS=>rng_key hS) Tryz.underlying34 rfl HLK.out) hHeld ?_;simp only [Act.put,zq1,zq2,zq3,zq4,zq5,zq6];refine tkp 6 (.slice (some ⟨g,off,none⟩) n pc) hHeld ?_;simp only [Act.put,zq1,zq2,zq3,zq4,zq5,zq6];refine tkp 7 (.int .i64 (k:Int)) hHeld ?_;simp only [Act.put,zq1,zq2,zq3,zq4,zq5,zq6];refine tkp 8 (.pointer (some ⟨g,off+k * 33,none⟩)) hHeld ?_;simp only [Act.put,zq1,zq2,zq3,zq4,zq5,zq6];refine tkp 9 (.pointer (some ⟨g,off+k * 33+32,none⟩)) hHeld ?_;simp only [Act.put,zq1,zq2,zq3,zq4,zq5,zq6];refine tkg 10 (.slice va vl vc) rfl (Or.inl ⟨by rfl,fun w hS=>by (have q1:=rng_val hS HKL.out;go_simp)⟩) hHeld ?_;simp only [Act.put,zq1,zq2,zq3,zq4,zq5,zq6];refine tkg 11 (.agg (encW ⟨K,false,b,.slice va vl vc⟩).toArray) rfl (Or.inl ⟨by rfl,fun w hS=>exec_bdw _ _ 37 _ (by rfl) _ (by rw [List.map_toArray];exact HBL.out) w⟩) hHeld ?_;simp only [Act.put,zq1,zq2,zq3,zq4,zq5,zq6];refine wpAnyH_ready (rs:=[12]) (by kernel_rfl) (by simp) ?_;refine AllReadyH.cons rfl (fun KQ hK=>?_) AllReadyH.nil;refine step_bsw _ rfl _ rfl ⟨K,false,b,.slice va vl vc⟩ rfl HWO.out.len ?_;intro w6 g6 hg6 B6 b6;have HA3:=hidden ((hacc.out.grow (Below.refl _ _).drew).grow b6);refine hK.out _ _ (HRG.out _ HA3.out.bel) (fun hHeld=>?_);clear hK KQ;refine wpAnyH_ready (rs:=[13]) (by kernel_rfl) (by simp) ?_;refine AllReadyH.cons rfl (fun KQ hK=>?_) AllReadyH.nil;refine step_appLw _ rfl _ _ _ rfl 37 34 64 Tryz.underlying23 HIN.out (by omega) (.slice aa am ac) am _ rfl HA3.out.own g6 (encW ⟨K,false,b,.slice va vl vc⟩) rfl B6 HWO.out.len HWO.out.one (by have:=HK6.out;simp only [maxLen];clear hwi;omega) (by have:=HK6.out;clear hwi;omega) ?_;intro u2 w7 k1 k2 k3;rw [HNX.out.1] at k1;have HA4:=hidden (HA3.out.app k1 k2 k3);clear HA3 k2 k3;obtain ⟨ua2,uc2,rfl⟩:=lst_slice k1;clear k1 B6;refine hK.out _ _ (HRG.out _ HA4.out.bel) (fun hHeld=>?_);clear hK KQ;refine tkp 14 (.slice ua2 (am+1) uc2) hHeld ?_;simp only [Act.put,zq1,zq2,zq3,zq4,zq5,zq6];refine wpAnyH_done (by kernel_rfl) ?_ _
        go_wp2_with fail
        rw [show ((k:Int)+1)=(j:Int) from by have:=HJ.out;clear hwi;omega];clear hwi;exact ⟨⟨j,rfl,HJN.out.1,HJN.out.2,⟨_,_,_,rfl⟩,by rw [← HNX.out.2];exact HA4⟩,by have:=HJ.out;simp [intOf];omega⟩
      · have l1: ¬(vl:Int)≤1024:=by omega
        have HSM:Hid (mpV V es j=mpV V es k):=by
          show _=_;rw [hj];exact mpV_out V es k (by rw [← hvl];exact hle)
        clear HAM hkl hrg hkey hrd hV hK hb hvl hj hk2 HPR HRV HM hle
        go_wp2_with fail
        rw [show ((k:Int)+1)=(j:Int) from by have:=HJ.out;clear hwi;omega];clear hwi;exact ⟨⟨j,rfl,HJN.out.1,HJN.out.2,⟨_,_,_,rfl⟩,by rw [HSM.out];exact hacc⟩,by have:=HJ.out;simp [intOf];omega⟩
    · have HC:=hidden (HRV.out wr (.slice aa am ac) k hk10 hkn hacc.out.bel hacc.out.own)
      by_cases z:k<n
      · have z1:(k:Int)<(n:Int):=by omega
        have z2: ¬(k:Int)<10:=by omega
        clear HRV HM HPR HPK hlt
        go_wp2_with (go_at_call 16;refine HC.out.mono ?_;rintro e w1 ⟨v9,rfl,hP⟩;have HP:=hidden hP;clear hP)
        exact HP.out
      · have z1: ¬(k:Int)<(n:Int):=by omega
        clear HRV HM HPR HPK hlt
        go_wp2_with (go_at_call 16;refine HC.out.mono ?_;rintro e w1 ⟨v9,rfl,hP⟩;have HP:=hidden hP;clear hP)
        exact HP.out

end Go.Proofs.YtabiglnmfdpcfaaGreatDoor
